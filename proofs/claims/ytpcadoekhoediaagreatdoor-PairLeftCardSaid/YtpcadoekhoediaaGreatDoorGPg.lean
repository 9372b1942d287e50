/-
  PairLeft's own spoil: a reading that is spoilt in a way. Conditions: a reading that lies.
  Plain facts of a transaction's records; the ways out at the front of PairLeft. Conditions: none.
  PairLeft walked. Conditions: 'Cpr', the laws' example.
  PairLeft. Conditions: 'Cpr', the laws' example.
-/
import Derived.Test.YtpcadoekhoediaaGreatDoorGPo
import Derived.Test.YtpcadoekhoediaaGreatDoorGPp
import Derived.Test.YtpcadoekhoediaaGreatDoorGSl
import Derived.Test.YtpcadoekhoediaaGreatDoorGAu
import Derived.Test.YtpcadoekhoediaaGreatDoorGGm
import Derived.Deep.QuietTactic
import Derived.BigQuiet
import Derived.Test.YtpcadoekhoediaaGreatDoorRcI
import Derived.Test.YtpcadoekhoediaaGreatDoorRcS
import Derived.IntWalk
namespace Go.Proofs.YtpcadoekhoediaaGreatDoor.prr
open Go.RowKit Go.Lib
open Go.Proofs.YtpcadoekhoediaaGreatDoor.gmt (Ok)
open Go.Proofs.YtpcadoekhoediaaGreatDoor.anc (bl kal kst ks bm ka)
open Go.Proofs.YtpcadoekhoediaaGreatDoor.tbl (G5 g5_new)
open Go.Proofs.YtpcadoekhoediaaGreatDoor.lrc (RecOk encR encR_short Rcd)
open Go.Proofs.YtpcadoekhoediaaGreatDoor.sel (enc enc_length place maskOf place_lt mask_lt mask_odd ref_flip_all)
open Go.Proofs.YtpcadoekhoediaaGreatDoor.crc (TurnedAll)

/-- What spoil answers: the reading, whether it is whole. -/
def SpA (ok : Bool) (e' : Int) (b : List UInt8) (e : Ending) (w' : World) : Prop := ∃ (A : Option Addr) (c : Nat), e = .returned (.tuple #[.agg #[.int .i64 e', .slice A b.length c], .bool ok]) ∧ Gt.In w' w'.heap.size ⟨e', A, c, b⟩
structure GotB (W : World) (g : Nat) (a0 a1 : Value) : Prop where
  c0 : W.cell? ⟨g, 0, none⟩ = some a0
  c1 : W.cell? ⟨g, 1, none⟩ = some a1
theorem gotB_new (w : World) (a0 a1 : Value) (t : TypeId) : GotB (w.alloc (.cells #[a0, a1] t)) w.heap.size a0 a1 := by
  have h := heap_alloc_new w (.cells #[a0, a1] t)
  constructor <;> (rw [cell_of_row _ _ _ _ _ _ h]; rfl)
set_option maxRecDepth 100000 in
set_option maxHeartbeats 8000000 in
theorem spoil_0 (z d s l a : Int) (G : Gt) (q : Nat) (how bits : Int) (w : World) (hG : G.In w w.heap.size) (hq : G.l.length = q) (hm : (IntKind.u64.wrap how).tmod 4 = 0) :
    Calls Tryz.prog 20 #[.agg #[.int .i64 z, .int .i64 d, .int .i64 s, .int .i64 l, .int .i64 a], .agg #[.int .i64 G.e, .slice G.A q G.c], .int .i64 how, .int .i64 bits] w fun e w' => SpA true G.e G.l e w' ∧ Below w.heap.size w w' := by
  have s1 : (w.alloc (.cells #[.int .i64 z, .int .i64 d, .int .i64 s, .int .i64 l, .int .i64 a] 23)).heap.size = w.heap.size + 1 := by simp
  have s2 : ((w.alloc (.cells #[.int .i64 z, .int .i64 d, .int .i64 s, .int .i64 l, .int .i64 a] 23)).alloc (.cells #[.int .i64 G.e, .slice G.A q G.c] 30)).heap.size = w.heap.size + 2 := by simp
  have B1 := gotB_new (w.alloc (.cells #[.int .i64 z, .int .i64 d, .int .i64 s, .int .i64 l, .int .i64 a] 23)) (.int .i64 G.e) (.slice G.A q G.c) 30
  have hB := bl ((w.alloc (.cells #[.int .i64 z, .int .i64 d, .int .i64 s, .int .i64 l, .int .i64 a] 23)).alloc (.cells #[.int .i64 G.e, .slice G.A q G.c] 30)) (.cells #[.int .i64 0, .slice none 0 0] 30)
  have HQ := heap_alloc_new ((w.alloc (.cells #[.int .i64 z, .int .i64 d, .int .i64 s, .int .i64 l, .int .i64 a] 23)).alloc (.cells #[.int .i64 G.e, .slice G.A q G.c] 30)) (.cells #[.int .i64 0, .slice none 0 0] 30)
  rw [s1] at B1
  rw [s2] at HQ
  have t0 := ks hB (by omega) B1.c0
  have t1 := ks hB (by omega) B1.c1
  have hw := kal (kal (bl w (.cells #[.int .i64 z, .int .i64 d, .int .i64 s, .int .i64 l, .int .i64 a] 23)) (.cells #[.int .i64 G.e, .slice G.A q G.c] 30)) (.cells #[.int .i64 0, .slice none 0 0] 30)
  have l2 : w.heap.size + 2 < (((w.alloc (.cells #[.int .i64 z, .int .i64 d, .int .i64 s, .int .i64 l, .int .i64 a] 23)).alloc (.cells #[.int .i64 G.e, .slice G.A q G.c] 30)).alloc (.cells #[.int .i64 0, .slice none 0 0] 30)).heap.size := by simp
  have HG := Lib.hid (hG.next hw)
  have HQL := Lib.hid hq
  clear s1 s2 B1 hB hG hq
  go_enter Tryz.func20, Tryz.ntmps20
  go_upto_region 1 with fail
  generalize ((w.alloc (.cells #[.int .i64 z, .int .i64 d, .int .i64 s, .int .i64 l, .int .i64 a] 23)).alloc (.cells #[.int .i64 G.e, .slice G.A q G.c] 30)).alloc (.cells #[.int .i64 0, .slice none 0 0] 30) = w0 at *
  have y0 : w0.cell? ⟨w.heap.size + 2, 0, none⟩ = some (.int .i64 0) := by rw [cell_of_row _ _ _ _ _ _ HQ]; rfl
  have y1 : w0.cell? ⟨w.heap.size + 2, 1, none⟩ = some (.slice none 0 0) := by rw [cell_of_row _ _ _ _ _ _ HQ]; rfl
  have f0 := frozen_of_row w0 (w.heap.size + 2) 0 _ _ HQ
  have f1 := frozen_of_row w0 (w.heap.size + 2) 1 _ _ HQ
  go_wp2_with fail
  have K := got_set HQ (.int .i64 G.e) (.slice G.A q G.c)
  exact bodyPost_ret (v := .tuple #[.agg #[.int .i64 G.e, .slice G.A q G.c], .bool true]) (by simp [results, Tryz.results20, go_sem, K.1, K.2]) rfl ⟨⟨G.A, G.c, by rw [HQL.out], ⟨(sl_2 HG.out.h HQ _ _).more (by simp [World.size_setCell]), HG.out.l⟩⟩, ((hw).setCell (p := ⟨w.heap.size + 2, 0, none⟩) (Nat.le_add_right _ 2) _).setCell (p := ⟨w.heap.size + 2, 1, none⟩) (Nat.le_add_right _ 2) _⟩
set_option maxRecDepth 100000 in
set_option maxHeartbeats 8000000 in
theorem spoil_1 (z d s l a : Int) (G : Gt) (q : Nat) (how bits : Int) (w : World) (hG : G.In w w.heap.size) (hq : G.l.length = q) (hm : (IntKind.u64.wrap how).tmod 4 = 1) :
    Calls Tryz.prog 20 #[.agg #[.int .i64 z, .int .i64 d, .int .i64 s, .int .i64 l, .int .i64 a], .agg #[.int .i64 G.e, .slice G.A q G.c], .int .i64 how, .int .i64 bits] w fun e w' => SpA false 6 [] e w' ∧ Below w.heap.size w w' := by
  have s1 : (w.alloc (.cells #[.int .i64 z, .int .i64 d, .int .i64 s, .int .i64 l, .int .i64 a] 23)).heap.size = w.heap.size + 1 := by simp
  have s2 : ((w.alloc (.cells #[.int .i64 z, .int .i64 d, .int .i64 s, .int .i64 l, .int .i64 a] 23)).alloc (.cells #[.int .i64 G.e, .slice G.A q G.c] 30)).heap.size = w.heap.size + 2 := by simp
  have B1 := gotB_new (w.alloc (.cells #[.int .i64 z, .int .i64 d, .int .i64 s, .int .i64 l, .int .i64 a] 23)) (.int .i64 G.e) (.slice G.A q G.c) 30
  have hB := bl ((w.alloc (.cells #[.int .i64 z, .int .i64 d, .int .i64 s, .int .i64 l, .int .i64 a] 23)).alloc (.cells #[.int .i64 G.e, .slice G.A q G.c] 30)) (.cells #[.int .i64 0, .slice none 0 0] 30)
  have HQ := heap_alloc_new ((w.alloc (.cells #[.int .i64 z, .int .i64 d, .int .i64 s, .int .i64 l, .int .i64 a] 23)).alloc (.cells #[.int .i64 G.e, .slice G.A q G.c] 30)) (.cells #[.int .i64 0, .slice none 0 0] 30)
  rw [s1] at B1
  rw [s2] at HQ
  have t0 := ks hB (by omega) B1.c0
  have t1 := ks hB (by omega) B1.c1
  have hw := kal (kal (bl w (.cells #[.int .i64 z, .int .i64 d, .int .i64 s, .int .i64 l, .int .i64 a] 23)) (.cells #[.int .i64 G.e, .slice G.A q G.c] 30)) (.cells #[.int .i64 0, .slice none 0 0] 30)
  have l2 : w.heap.size + 2 < (((w.alloc (.cells #[.int .i64 z, .int .i64 d, .int .i64 s, .int .i64 l, .int .i64 a] 23)).alloc (.cells #[.int .i64 G.e, .slice G.A q G.c] 30)).alloc (.cells #[.int .i64 0, .slice none 0 0] 30)).heap.size := by simp
  have HG := Lib.hid (hG.next hw)
  have HQL := Lib.hid hq
  clear s1 s2 B1 hB hG hq
  go_enter Tryz.func20, Tryz.ntmps20
  go_upto_region 1 with fail
  generalize ((w.alloc (.cells #[.int .i64 z, .int .i64 d, .int .i64 s, .int .i64 l, .int .i64 a] 23)).alloc (.cells #[.int .i64 G.e, .slice G.A q G.c] 30)).alloc (.cells #[.int .i64 0, .slice none 0 0] 30) = w0 at *
  have y0 : w0.cell? ⟨w.heap.size + 2, 0, none⟩ = some (.int .i64 0) := by rw [cell_of_row _ _ _ _ _ _ HQ]; rfl
  have y1 : w0.cell? ⟨w.heap.size + 2, 1, none⟩ = some (.slice none 0 0) := by rw [cell_of_row _ _ _ _ _ _ HQ]; rfl
  have f0 := frozen_of_row w0 (w.heap.size + 2) 0 _ _ HQ
  have f1 := frozen_of_row w0 (w.heap.size + 2) 1 _ _ HQ
  go_wp2_with fail
  have K := got_set HQ (.int .i64 6) (.slice none 0 0)
  exact bodyPost_ret (v := .tuple #[.agg #[.int .i64 6, .slice none 0 0], .bool false]) (by simp [results, Tryz.results20, go_sem, K.1, K.2]) rfl ⟨⟨none, 0, rfl, ⟨Sl.nil _ _ _, Nat.le_refl _, Nat.zero_le _, Nat.zero_le _⟩⟩, ((hw).setCell (p := ⟨w.heap.size + 2, 0, none⟩) (Nat.le_add_right _ 2) _).setCell (p := ⟨w.heap.size + 2, 1, none⟩) (Nat.le_add_right _ 2) _⟩
set_option maxRecDepth 100000 in
set_option maxHeartbeats 8000000 in
theorem spoil_2 (z d s l a : Int) (G : Gt) (q : Nat) (how bits : Int) (w : World) (hG : G.In w w.heap.size) (hq : G.l.length = q) (hm : (IntKind.u64.wrap how).tmod 4 = 2) :
    Calls Tryz.prog 20 #[.agg #[.int .i64 z, .int .i64 d, .int .i64 s, .int .i64 l, .int .i64 a], .agg #[.int .i64 G.e, .slice G.A q G.c], .int .i64 how, .int .i64 bits] w fun e w' => (∃ out, TurnedAll G.l out (place bits q) (maskOf bits) ∧ SpA false 0 out e w') ∧ Below w.heap.size w w' := by
  have s1 : (w.alloc (.cells #[.int .i64 z, .int .i64 d, .int .i64 s, .int .i64 l, .int .i64 a] 23)).heap.size = w.heap.size + 1 := by simp
  have s2 : ((w.alloc (.cells #[.int .i64 z, .int .i64 d, .int .i64 s, .int .i64 l, .int .i64 a] 23)).alloc (.cells #[.int .i64 G.e, .slice G.A q G.c] 30)).heap.size = w.heap.size + 2 := by simp
  have B1 := gotB_new (w.alloc (.cells #[.int .i64 z, .int .i64 d, .int .i64 s, .int .i64 l, .int .i64 a] 23)) (.int .i64 G.e) (.slice G.A q G.c) 30
  have hB := bl ((w.alloc (.cells #[.int .i64 z, .int .i64 d, .int .i64 s, .int .i64 l, .int .i64 a] 23)).alloc (.cells #[.int .i64 G.e, .slice G.A q G.c] 30)) (.cells #[.int .i64 0, .slice none 0 0] 30)
  have HQ := heap_alloc_new ((w.alloc (.cells #[.int .i64 z, .int .i64 d, .int .i64 s, .int .i64 l, .int .i64 a] 23)).alloc (.cells #[.int .i64 G.e, .slice G.A q G.c] 30)) (.cells #[.int .i64 0, .slice none 0 0] 30)
  rw [s1] at B1
  rw [s2] at HQ
  have t0 := ks hB (by omega) B1.c0
  have t1 := ks hB (by omega) B1.c1
  have hw := kal (kal (bl w (.cells #[.int .i64 z, .int .i64 d, .int .i64 s, .int .i64 l, .int .i64 a] 23)) (.cells #[.int .i64 G.e, .slice G.A q G.c] 30)) (.cells #[.int .i64 0, .slice none 0 0] 30)
  have l2 : w.heap.size + 2 < (((w.alloc (.cells #[.int .i64 z, .int .i64 d, .int .i64 s, .int .i64 l, .int .i64 a] 23)).alloc (.cells #[.int .i64 G.e, .slice G.A q G.c] 30)).alloc (.cells #[.int .i64 0, .slice none 0 0] 30)).heap.size := by simp
  have HG := Lib.hid (hG.next hw)
  have HQL := Lib.hid hq
  clear s1 s2 B1 hB hG hq
  have HFL := Lib.hid (ref_flip_all G.A G.c _ q G.l bits bits _ HQL.out HG.out.h (by have := HG.out.l; have := HQL.out; omega))
  go_enter Tryz.func20, Tryz.ntmps20
  go_upto_region 1 with fail
  generalize ((w.alloc (.cells #[.int .i64 z, .int .i64 d, .int .i64 s, .int .i64 l, .int .i64 a] 23)).alloc (.cells #[.int .i64 G.e, .slice G.A q G.c] 30)).alloc (.cells #[.int .i64 0, .slice none 0 0] 30) = w0 at *
  have y0 : w0.cell? ⟨w.heap.size + 2, 0, none⟩ = some (.int .i64 0) := by rw [cell_of_row _ _ _ _ _ _ HQ]; rfl
  have y1 : w0.cell? ⟨w.heap.size + 2, 1, none⟩ = some (.slice none 0 0) := by rw [cell_of_row _ _ _ _ _ _ HQ]; rfl
  have f0 := frozen_of_row w0 (w.heap.size + 2) 0 _ _ HQ
  have f1 := frozen_of_row w0 (w.heap.size + 2) 1 _ _ HQ
  go_wp2_with (go_at_call 39; (with_reducible refine (HFL.out).mono ?_); rintro e w1 ⟨⟨out, ht, v, rfl, hown⟩, hb1⟩; obtain ⟨Z, zc, rfl, z1, z2, hsl, -⟩ := hown.form; have HQ1 : w1.heap[w.heap.size + 2]? = _ := (hb1.block _ l2).trans HQ; clear y0 y1 f0 f1; have y0 : w1.cell? ⟨w.heap.size + 2, 0, none⟩ = some (.int .i64 0) := (by rw [cell_of_row _ _ _ _ _ _ HQ1]; rfl); have y1 : w1.cell? ⟨w.heap.size + 2, 1, none⟩ = some (.slice none 0 0) := (by rw [cell_of_row _ _ _ _ _ _ HQ1]; rfl); have f0 := frozen_of_row w1 (w.heap.size + 2) 0 _ _ HQ1; have f1 := frozen_of_row w1 (w.heap.size + 2) 1 _ _ HQ1)
  have K := got_set HQ1 (.int .i64 0) (.slice Z out.length zc)
  exact bodyPost_ret (v := .tuple #[.agg #[.int .i64 0, .slice Z out.length zc], .bool false]) (by simp [results, Tryz.results20, go_sem, K.1, K.2]) rfl ⟨⟨out, ht, Z, zc, rfl, ⟨(sl_2 hsl HQ1 _ _).more (by simp [World.size_setCell]), z1, z2, by have h1 := ht.1; have h2 := HG.out.l.2.2; show out.length ≤ 1048576; omega⟩⟩, ((bt hw hb1).setCell (p := ⟨w.heap.size + 2, 0, none⟩) (Nat.le_add_right _ 2) _).setCell (p := ⟨w.heap.size + 2, 1, none⟩) (Nat.le_add_right _ 2) _⟩
set_option maxRecDepth 100000 in
set_option maxHeartbeats 8000000 in
theorem spoil_3 (z d s l a : Int) (G : Gt) (q : Nat) (how bits : Int) (w : World) (hG : G.In w w.heap.size) (hq : G.l.length = q) (hm : (IntKind.u64.wrap how).tmod 4 = 3) :
    Calls Tryz.prog 20 #[.agg #[.int .i64 z, .int .i64 d, .int .i64 s, .int .i64 l, .int .i64 a], .agg #[.int .i64 G.e, .slice G.A q G.c], .int .i64 how, .int .i64 bits] w fun e w' => SpA false 0 [] e w' ∧ Below w.heap.size w w' := by
  have s1 : (w.alloc (.cells #[.int .i64 z, .int .i64 d, .int .i64 s, .int .i64 l, .int .i64 a] 23)).heap.size = w.heap.size + 1 := by simp
  have s2 : ((w.alloc (.cells #[.int .i64 z, .int .i64 d, .int .i64 s, .int .i64 l, .int .i64 a] 23)).alloc (.cells #[.int .i64 G.e, .slice G.A q G.c] 30)).heap.size = w.heap.size + 2 := by simp
  have B1 := gotB_new (w.alloc (.cells #[.int .i64 z, .int .i64 d, .int .i64 s, .int .i64 l, .int .i64 a] 23)) (.int .i64 G.e) (.slice G.A q G.c) 30
  have hB := bl ((w.alloc (.cells #[.int .i64 z, .int .i64 d, .int .i64 s, .int .i64 l, .int .i64 a] 23)).alloc (.cells #[.int .i64 G.e, .slice G.A q G.c] 30)) (.cells #[.int .i64 0, .slice none 0 0] 30)
  have HQ := heap_alloc_new ((w.alloc (.cells #[.int .i64 z, .int .i64 d, .int .i64 s, .int .i64 l, .int .i64 a] 23)).alloc (.cells #[.int .i64 G.e, .slice G.A q G.c] 30)) (.cells #[.int .i64 0, .slice none 0 0] 30)
  rw [s1] at B1
  rw [s2] at HQ
  have t0 := ks hB (by omega) B1.c0
  have t1 := ks hB (by omega) B1.c1
  have hw := kal (kal (bl w (.cells #[.int .i64 z, .int .i64 d, .int .i64 s, .int .i64 l, .int .i64 a] 23)) (.cells #[.int .i64 G.e, .slice G.A q G.c] 30)) (.cells #[.int .i64 0, .slice none 0 0] 30)
  have l2 : w.heap.size + 2 < (((w.alloc (.cells #[.int .i64 z, .int .i64 d, .int .i64 s, .int .i64 l, .int .i64 a] 23)).alloc (.cells #[.int .i64 G.e, .slice G.A q G.c] 30)).alloc (.cells #[.int .i64 0, .slice none 0 0] 30)).heap.size := by simp
  have HG := Lib.hid (hG.next hw)
  have HQL := Lib.hid hq
  clear s1 s2 B1 hB hG hq
  go_enter Tryz.func20, Tryz.ntmps20
  go_upto_region 1 with fail
  generalize ((w.alloc (.cells #[.int .i64 z, .int .i64 d, .int .i64 s, .int .i64 l, .int .i64 a] 23)).alloc (.cells #[.int .i64 G.e, .slice G.A q G.c] 30)).alloc (.cells #[.int .i64 0, .slice none 0 0] 30) = w0 at *
  have y0 : w0.cell? ⟨w.heap.size + 2, 0, none⟩ = some (.int .i64 0) := by rw [cell_of_row _ _ _ _ _ _ HQ]; rfl
  have y1 : w0.cell? ⟨w.heap.size + 2, 1, none⟩ = some (.slice none 0 0) := by rw [cell_of_row _ _ _ _ _ _ HQ]; rfl
  have f0 := frozen_of_row w0 (w.heap.size + 2) 0 _ _ HQ
  have f1 := frozen_of_row w0 (w.heap.size + 2) 1 _ _ HQ
  go_wp2_with fail
  have K := got_set HQ (.int .i64 0) (.slice none 0 0)
  exact bodyPost_ret (v := .tuple #[.agg #[.int .i64 0, .slice none 0 0], .bool false]) (by simp [results, Tryz.results20, go_sem, K.1, K.2]) rfl ⟨⟨none, 0, rfl, ⟨Sl.nil _ _ _, Nat.le_refl _, Nat.zero_le _, Nat.zero_le _⟩⟩, ((hw).setCell (p := ⟨w.heap.size + 2, 0, none⟩) (Nat.le_add_right _ 2) _).setCell (p := ⟨w.heap.size + 2, 1, none⟩) (Nat.le_add_right _ 2) _⟩
/-- Spoilt or not: what it says. -/
theorem spoil_c (z d s l a : Int) (G : Gt) (q : Nat) (how bits : Int) (r : Rcd) (addr : Nat) (w : World) (hG : G.In w w.heap.size) (hq : G.l.length = q) (ho : Ok z d s l a) (hr : RecOk z d r) (h0 : G.e = 0) (hl : G.l = enc addr r.sq.toNat (encR r)) :
    Calls Tryz.prog 20 #[.agg #[.int .i64 z, .int .i64 d, .int .i64 s, .int .i64 l, .int .i64 a], .agg #[.int .i64 G.e, .slice G.A q G.c], .int .i64 how, .int .i64 bits] w fun e w' => (∃ (ok : Bool) (e' : Int) (b : List UInt8), (ok = true → e' = 0 ∧ b = G.l) ∧ (ok = false → ∀ ad, ¬ SayOk z d e' b ad) ∧ SpA ok e' b e w') ∧ Below w.heap.size w w' := by
  obtain ⟨h1, h2⟩ := gmt.wrap_mod how 4 (by decide)
  have h5 : (IntKind.u64.wrap how).tmod 4 = 0 ∨ (IntKind.u64.wrap how).tmod 4 = 1 ∨ (IntKind.u64.wrap how).tmod 4 = 2 ∨ (IntKind.u64.wrap how).tmod 4 = 3 := by omega
  rcases h5 with h | h | h | h
  · refine (spoil_0 z d s l a G q how bits w hG hq h).mono ?_
    rintro e w' ⟨hs, hb⟩
    exact ⟨⟨true, G.e, G.l, fun _ => ⟨h0, rfl⟩, fun k => absurd k (by decide), hs⟩, hb⟩
  · refine (spoil_1 z d s l a G q how bits w hG hq h).mono ?_
    rintro e w' ⟨hs, hb⟩
    exact ⟨⟨false, 6, [], fun k => absurd k (by decide), fun _ ad => say_err (by decide), hs⟩, hb⟩
  · refine (spoil_2 z d s l a G q how bits w hG hq h).mono ?_
    rintro e w' ⟨⟨out, ht, hs⟩, hb⟩
    refine ⟨⟨false, 0, out, fun k => absurd k (by decide), fun _ ad => ?_, hs⟩, hb⟩
    have h59 := (encR_short hr ⟨ho.2.1.1, ho.2.1.2⟩).1
    have hle := enc_length addr r.sq.toNat (encR r)
    rw [← hq, hl] at ht
    exact say_turned hr ho.2.1 ht (place_lt bits (by omega)) (mask_lt bits) (mask_odd bits)
  · refine (spoil_3 z d s l a G q how bits w hG hq h).mono ?_
    rintro e w' ⟨hs, hb⟩
    exact ⟨⟨false, 0, [], fun k => absurd k (by decide), fun _ ad => say_none, hs⟩, hb⟩
end Go.Proofs.YtpcadoekhoediaaGreatDoor.prr

namespace Go.Proofs.YtpcadoekhoediaaGreatDoor.prr
open Go.RowKit Go.Lib
open Go.Proofs.YtpcadoekhoediaaGreatDoor.gmt (Ok rgeo_at)
open Go.Proofs.YtpcadoekhoediaaGreatDoor.anc (AV AC ac_new bl kal kst ks bm ka HeavyA light heavy_any right_p)
open Go.Proofs.YtpcadoekhoediaaGreatDoor.tbl (G5 g5_new)
open Go.Proofs.YtpcadoekhoediaaGreatDoor.lrc (Rcd txnR imgR ImsOk NumOk RecOk)

/-- One of a transaction's records is right, and the one that is looked for. -/
theorem txn_rec {z d sq ep : Int} {ds : List (Int × Int × List UInt8)} {k : Nat} (h1 : 1 ≤ ds.length ∧ ds.length ≤ 29) (hi : ImsOk z d ds) (hs : NumOk sq) (he : NumOk ep) (hk : k ≤ ds.length) :
    ∃ r, (txnR sq ep ds)[k]? = some r ∧ RecOk z d r ∧ r.kd ≠ 0 ∧ r.sq = sq ∧ r.ep = ep ∧ r.ps = k ∧ r.nm = (ds.length : Int) + 1 := by
  unfold txnR
  rcases Nat.lt_or_ge k ds.length with hlt | hge
  · have hx : ds[k]? = some ds[k] := List.getElem?_eq_getElem hlt
    refine ⟨⟨1, sq, ep, k, (ds.length : Int) + 1, ds[k].1, ds[k].2.1, ds[k].2.2⟩, ?_, .inr (.inr ⟨⟨hs, he, by show (2 : Int) ≤ (ds.length : Int) + 1 ∧ (ds.length : Int) + 1 ≤ 30; omega⟩, rfl, by show (0 : Int) ≤ (k : Int) ∧ (k : Int) ≤ (ds.length : Int) + 1 - 2; omega, hi _ (List.getElem_mem hlt)⟩), by show (1 : Int) ≠ 0; decide, rfl, rfl, rfl, rfl⟩
    rw [List.getElem?_append_left (by simp; exact hlt), List.getElem?_map, List.getElem?_range hlt]
    simp only [Option.map_some, imgR, hx]
  · obtain rfl : k = ds.length := by omega
    refine ⟨⟨2, sq, ep, ds.length, (ds.length : Int) + 1, 0, 0, []⟩, ?_, .inr (.inl ⟨⟨hs, he, by show (2 : Int) ≤ (ds.length : Int) + 1 ∧ (ds.length : Int) + 1 ≤ 30; omega⟩, rfl, by show (ds.length : Int) = (ds.length : Int) + 1 - 1; omega, rfl, rfl, rfl⟩), by show (2 : Int) ≠ 0; decide, rfl, rfl, rfl, rfl⟩
    rw [List.getElem?_append_right (by simp)]
    simp
theorem txn_one {r : Rcd} {sq ep last k of n l : Int} (h0 : r.kd ≠ 0) (h1 : r.sq = sq) (h2 : r.ep = ep) (h3 : r.ps = k) (h4 : r.nm = n + 1) (hl : n < l) (hof : of = 0 ∨ of = n + 1) (hn : 1 ≤ n) : OneR r ep last sq k of l :=
  ⟨h0, h1, h3, fun h => by rw [h4]; rcases hof with q | q <;> omega, fun h => by rw [h4]; omega, .inl h2⟩
set_option maxRecDepth 100000 in
set_option maxHeartbeats 8000000 in
theorem left_heavy (z d s l a : Int) (x : AV) (yA : Option Addr) (yc n : Nat) (sl0 sq0 at0 m0 m1 m2 : Int) (w : World) (hx : x.In w w.heap.size) (hh : HeavyA x.d) :
    Calls Tryz.prog 4 #[.agg #[.int .i64 z, .int .i64 d, .int .i64 s, .int .i64 l, .int .i64 a], .agg #[.int .i64 x.gen, .int .i64 x.ep, .int .i64 x.pos, .int .i64 x.seq, .int .i64 x.last, .string x.lab, .slice x.HA x.hs.length x.hc], .slice yA n yc, .int .i64 sl0, .int .i64 sq0, .int .i64 at0, .agg #[.int .i64 m0, .int .i64 m1, .int .i64 m2]] w fun e w' => e = .returned (.bool true) ∧ Below w.heap.size w w' := by
  have cH := fun W (hW : Below w.heap.size w W) => heavy_any true x W (hx.next hW) (iff_of_true rfl hh)
  unfold AV.v at *
  have s1 : (w.alloc (.cells #[.int .i64 z, .int .i64 d, .int .i64 s, .int .i64 l, .int .i64 a] 23)).heap.size = w.heap.size + 1 := by simp
  have s2 : ((w.alloc (.cells #[.int .i64 z, .int .i64 d, .int .i64 s, .int .i64 l, .int .i64 a] 23)).alloc (.cells #[.int .i64 x.gen, .int .i64 x.ep, .int .i64 x.pos, .int .i64 x.seq, .int .i64 x.last, .string x.lab, .slice x.HA x.hs.length x.hc] 26)).heap.size = w.heap.size + 2 := by simp
  have GG := (g5_new w z d s l a).keep (kal (bl (w.alloc (.cells #[.int .i64 z, .int .i64 d, .int .i64 s, .int .i64 l, .int .i64 a] 23)) (.cells #[.int .i64 x.gen, .int .i64 x.ep, .int .i64 x.pos, .int .i64 x.seq, .int .i64 x.last, .string x.lab, .slice x.HA x.hs.length x.hc] 26)) (.cells #[.int .i64 m0, .int .i64 m1, .int .i64 m2] 54)) (by simp)
  have FF := (ac_new (w.alloc (.cells #[.int .i64 z, .int .i64 d, .int .i64 s, .int .i64 l, .int .i64 a] 23)) x).keep (bl ((w.alloc (.cells #[.int .i64 z, .int .i64 d, .int .i64 s, .int .i64 l, .int .i64 a] 23)).alloc (.cells #[.int .i64 x.gen, .int .i64 x.ep, .int .i64 x.pos, .int .i64 x.seq, .int .i64 x.last, .string x.lab, .slice x.HA x.hs.length x.hc] 26)) (.cells #[.int .i64 m0, .int .i64 m1, .int .i64 m2] 54)) (by omega)
  have HN := heap_alloc_new ((w.alloc (.cells #[.int .i64 z, .int .i64 d, .int .i64 s, .int .i64 l, .int .i64 a] 23)).alloc (.cells #[.int .i64 x.gen, .int .i64 x.ep, .int .i64 x.pos, .int .i64 x.seq, .int .i64 x.last, .string x.lab, .slice x.HA x.hs.length x.hc] 26)) (.cells #[.int .i64 m0, .int .i64 m1, .int .i64 m2] 54)
  rw [s1] at FF
  rw [s2] at HN
  have hb0 := kal (kal (bl w (.cells #[.int .i64 z, .int .i64 d, .int .i64 s, .int .i64 l, .int .i64 a] 23)) (.cells #[.int .i64 x.gen, .int .i64 x.ep, .int .i64 x.pos, .int .i64 x.seq, .int .i64 x.last, .string x.lab, .slice x.HA x.hs.length x.hc] 26)) (.cells #[.int .i64 m0, .int .i64 m1, .int .i64 m2] 54)
  have l1 : w.heap.size + 2 < (((w.alloc (.cells #[.int .i64 z, .int .i64 d, .int .i64 s, .int .i64 l, .int .i64 a] 23)).alloc (.cells #[.int .i64 x.gen, .int .i64 x.ep, .int .i64 x.pos, .int .i64 x.seq, .int .i64 x.last, .string x.lab, .slice x.HA x.hs.length x.hc] 26)).alloc (.cells #[.int .i64 m0, .int .i64 m1, .int .i64 m2] 54)).heap.size := by simp
  clear hx hh s1 s2
  go_enter Tryz.func4, Tryz.ntmps4
  go_upto_region 1 with fail
  generalize (((w.alloc (.cells #[.int .i64 z, .int .i64 d, .int .i64 s, .int .i64 l, .int .i64 a] 23)).alloc (.cells #[.int .i64 x.gen, .int .i64 x.ep, .int .i64 x.pos, .int .i64 x.seq, .int .i64 x.last, .string x.lab, .slice x.HA x.hs.length x.hc] 26)).alloc (.cells #[.int .i64 m0, .int .i64 m1, .int .i64 m2] 54)) = w0 at *
  have y0 : w0.cell? ⟨w.heap.size + 2, 0, none⟩ = some (.int .i64 m0) := by rw [cell_of_row _ _ _ _ _ _ HN]; rfl
  have y1 : w0.cell? ⟨w.heap.size + 2, 1, none⟩ = some (.int .i64 m1) := by rw [cell_of_row _ _ _ _ _ _ HN]; rfl
  have y2 : w0.cell? ⟨w.heap.size + 2, 2, none⟩ = some (.int .i64 m2) := by rw [cell_of_row _ _ _ _ _ _ HN]; rfl
  go_quiet (fail)
  replace GG := GG.keep (below_dn (Below.refl w0.heap.size w0) nq) (by omega)
  replace FF := FF.keep (below_dn (Below.refl w0.heap.size w0) nq) (by omega)
  replace hb0 := bt hb0 (below_dn (Below.refl w0.heap.size w0) nq)
  replace l1 : w.heap.size + 2 < (w0.drewN nq).heap.size := l1
  clear y0 y1 y2 HN
  generalize w0.drewN nq = w1 at *
  obtain ⟨c0, c1, c2, c3, c4, c5, c6⟩ := id FF
  obtain ⟨g0, g1, g2, g3, g4⟩ := id GG
  go_wp2_with (first
    | (go_at_call 5; (with_reducible refine (cH _ hb0).mono ?_); rintro e wq ⟨rfl, hbq⟩; replace FF := FF.keep hbq (by omega); replace GG := GG.keep hbq (by omega); replace l1 := Nat.lt_of_lt_of_le l1 hbq.size; clear c0 c1 c2 c3 c4 c5 c6 g0 g1 g2 g3 g4; obtain ⟨c0, c1, c2, c3, c4, c5, c6⟩ := id FF; obtain ⟨g0, g1, g2, g3, g4⟩ := id GG; replace hb0 := bt hb0 hbq; clear hbq)
    | fail)
  go_ret
  exact ⟨rfl, hb0⟩
set_option maxRecDepth 100000 in
set_option maxHeartbeats 8000000 in
theorem left_long (z d s l a : Int) (x : AV) (yA : Option Addr) (yc n : Nat) (sl0 sq0 at0 m0 m1 m2 : Int) (w : World) (hx : x.In w w.heap.size) (hh : ¬ HeavyA x.d) (hn : (40 : Int) < (n : Int)) :
    Calls Tryz.prog 4 #[.agg #[.int .i64 z, .int .i64 d, .int .i64 s, .int .i64 l, .int .i64 a], .agg #[.int .i64 x.gen, .int .i64 x.ep, .int .i64 x.pos, .int .i64 x.seq, .int .i64 x.last, .string x.lab, .slice x.HA x.hs.length x.hc], .slice yA n yc, .int .i64 sl0, .int .i64 sq0, .int .i64 at0, .agg #[.int .i64 m0, .int .i64 m1, .int .i64 m2]] w fun e w' => e = .returned (.bool true) ∧ Below w.heap.size w w' := by
  have cH := fun W (hW : Below w.heap.size w W) => heavy_any false x W (hx.next hW) (iff_of_false Bool.false_ne_true hh)
  unfold AV.v at *
  have s1 : (w.alloc (.cells #[.int .i64 z, .int .i64 d, .int .i64 s, .int .i64 l, .int .i64 a] 23)).heap.size = w.heap.size + 1 := by simp
  have s2 : ((w.alloc (.cells #[.int .i64 z, .int .i64 d, .int .i64 s, .int .i64 l, .int .i64 a] 23)).alloc (.cells #[.int .i64 x.gen, .int .i64 x.ep, .int .i64 x.pos, .int .i64 x.seq, .int .i64 x.last, .string x.lab, .slice x.HA x.hs.length x.hc] 26)).heap.size = w.heap.size + 2 := by simp
  have GG := (g5_new w z d s l a).keep (kal (bl (w.alloc (.cells #[.int .i64 z, .int .i64 d, .int .i64 s, .int .i64 l, .int .i64 a] 23)) (.cells #[.int .i64 x.gen, .int .i64 x.ep, .int .i64 x.pos, .int .i64 x.seq, .int .i64 x.last, .string x.lab, .slice x.HA x.hs.length x.hc] 26)) (.cells #[.int .i64 m0, .int .i64 m1, .int .i64 m2] 54)) (by simp)
  have FF := (ac_new (w.alloc (.cells #[.int .i64 z, .int .i64 d, .int .i64 s, .int .i64 l, .int .i64 a] 23)) x).keep (bl ((w.alloc (.cells #[.int .i64 z, .int .i64 d, .int .i64 s, .int .i64 l, .int .i64 a] 23)).alloc (.cells #[.int .i64 x.gen, .int .i64 x.ep, .int .i64 x.pos, .int .i64 x.seq, .int .i64 x.last, .string x.lab, .slice x.HA x.hs.length x.hc] 26)) (.cells #[.int .i64 m0, .int .i64 m1, .int .i64 m2] 54)) (by omega)
  have HN := heap_alloc_new ((w.alloc (.cells #[.int .i64 z, .int .i64 d, .int .i64 s, .int .i64 l, .int .i64 a] 23)).alloc (.cells #[.int .i64 x.gen, .int .i64 x.ep, .int .i64 x.pos, .int .i64 x.seq, .int .i64 x.last, .string x.lab, .slice x.HA x.hs.length x.hc] 26)) (.cells #[.int .i64 m0, .int .i64 m1, .int .i64 m2] 54)
  rw [s1] at FF
  rw [s2] at HN
  have hb0 := kal (kal (bl w (.cells #[.int .i64 z, .int .i64 d, .int .i64 s, .int .i64 l, .int .i64 a] 23)) (.cells #[.int .i64 x.gen, .int .i64 x.ep, .int .i64 x.pos, .int .i64 x.seq, .int .i64 x.last, .string x.lab, .slice x.HA x.hs.length x.hc] 26)) (.cells #[.int .i64 m0, .int .i64 m1, .int .i64 m2] 54)
  have l1 : w.heap.size + 2 < (((w.alloc (.cells #[.int .i64 z, .int .i64 d, .int .i64 s, .int .i64 l, .int .i64 a] 23)).alloc (.cells #[.int .i64 x.gen, .int .i64 x.ep, .int .i64 x.pos, .int .i64 x.seq, .int .i64 x.last, .string x.lab, .slice x.HA x.hs.length x.hc] 26)).alloc (.cells #[.int .i64 m0, .int .i64 m1, .int .i64 m2] 54)).heap.size := by simp
  clear hx hh s1 s2
  go_enter Tryz.func4, Tryz.ntmps4
  go_upto_region 1 with fail
  generalize (((w.alloc (.cells #[.int .i64 z, .int .i64 d, .int .i64 s, .int .i64 l, .int .i64 a] 23)).alloc (.cells #[.int .i64 x.gen, .int .i64 x.ep, .int .i64 x.pos, .int .i64 x.seq, .int .i64 x.last, .string x.lab, .slice x.HA x.hs.length x.hc] 26)).alloc (.cells #[.int .i64 m0, .int .i64 m1, .int .i64 m2] 54)) = w0 at *
  have y0 : w0.cell? ⟨w.heap.size + 2, 0, none⟩ = some (.int .i64 m0) := by rw [cell_of_row _ _ _ _ _ _ HN]; rfl
  have y1 : w0.cell? ⟨w.heap.size + 2, 1, none⟩ = some (.int .i64 m1) := by rw [cell_of_row _ _ _ _ _ _ HN]; rfl
  have y2 : w0.cell? ⟨w.heap.size + 2, 2, none⟩ = some (.int .i64 m2) := by rw [cell_of_row _ _ _ _ _ _ HN]; rfl
  go_quiet (fail)
  replace GG := GG.keep (below_dn (Below.refl w0.heap.size w0) nq) (by omega)
  replace FF := FF.keep (below_dn (Below.refl w0.heap.size w0) nq) (by omega)
  replace hb0 := bt hb0 (below_dn (Below.refl w0.heap.size w0) nq)
  replace l1 : w.heap.size + 2 < (w0.drewN nq).heap.size := l1
  clear y0 y1 y2 HN
  generalize w0.drewN nq = w1 at *
  obtain ⟨c0, c1, c2, c3, c4, c5, c6⟩ := id FF
  obtain ⟨g0, g1, g2, g3, g4⟩ := id GG
  go_wp2_with (first
    | (go_at_call 5; (with_reducible refine (cH _ hb0).mono ?_); rintro e wq ⟨rfl, hbq⟩; replace FF := FF.keep hbq (by omega); replace GG := GG.keep hbq (by omega); replace l1 := Nat.lt_of_lt_of_le l1 hbq.size; clear c0 c1 c2 c3 c4 c5 c6 g0 g1 g2 g3 g4; obtain ⟨c0, c1, c2, c3, c4, c5, c6⟩ := id FF; obtain ⟨g0, g1, g2, g3, g4⟩ := id GG; replace hb0 := bt hb0 hbq; clear hbq)
    | fail)
  go_ret
  exact ⟨rfl, hb0⟩
set_option maxRecDepth 100000 in
set_option maxHeartbeats 8000000 in
theorem left_geo (z d s l a : Int) (x : AV) (yA : Option Addr) (yc n : Nat) (sl0 sq0 at0 m0 m1 m2 : Int) (w : World) (hx : x.In w w.heap.size) (hh : ¬ HeavyA x.d) (hn : ¬ (40 : Int) < (n : Int)) (ho : ¬ Ok z d s l a) :
    Calls Tryz.prog 4 #[.agg #[.int .i64 z, .int .i64 d, .int .i64 s, .int .i64 l, .int .i64 a], .agg #[.int .i64 x.gen, .int .i64 x.ep, .int .i64 x.pos, .int .i64 x.seq, .int .i64 x.last, .string x.lab, .slice x.HA x.hs.length x.hc], .slice yA n yc, .int .i64 sl0, .int .i64 sq0, .int .i64 at0, .agg #[.int .i64 m0, .int .i64 m1, .int .i64 m2]] w fun e w' => e = .returned (.bool true) ∧ Below w.heap.size w w' := by
  have cH := fun W (hW : Below w.heap.size w W) => heavy_any false x W (hx.next hW) (iff_of_false Bool.false_ne_true hh)
  have cG := fun W => rgeo_at false z d s l a W (iff_of_false Bool.false_ne_true ho)
  unfold AV.v at *
  have s1 : (w.alloc (.cells #[.int .i64 z, .int .i64 d, .int .i64 s, .int .i64 l, .int .i64 a] 23)).heap.size = w.heap.size + 1 := by simp
  have s2 : ((w.alloc (.cells #[.int .i64 z, .int .i64 d, .int .i64 s, .int .i64 l, .int .i64 a] 23)).alloc (.cells #[.int .i64 x.gen, .int .i64 x.ep, .int .i64 x.pos, .int .i64 x.seq, .int .i64 x.last, .string x.lab, .slice x.HA x.hs.length x.hc] 26)).heap.size = w.heap.size + 2 := by simp
  have GG := (g5_new w z d s l a).keep (kal (bl (w.alloc (.cells #[.int .i64 z, .int .i64 d, .int .i64 s, .int .i64 l, .int .i64 a] 23)) (.cells #[.int .i64 x.gen, .int .i64 x.ep, .int .i64 x.pos, .int .i64 x.seq, .int .i64 x.last, .string x.lab, .slice x.HA x.hs.length x.hc] 26)) (.cells #[.int .i64 m0, .int .i64 m1, .int .i64 m2] 54)) (by simp)
  have FF := (ac_new (w.alloc (.cells #[.int .i64 z, .int .i64 d, .int .i64 s, .int .i64 l, .int .i64 a] 23)) x).keep (bl ((w.alloc (.cells #[.int .i64 z, .int .i64 d, .int .i64 s, .int .i64 l, .int .i64 a] 23)).alloc (.cells #[.int .i64 x.gen, .int .i64 x.ep, .int .i64 x.pos, .int .i64 x.seq, .int .i64 x.last, .string x.lab, .slice x.HA x.hs.length x.hc] 26)) (.cells #[.int .i64 m0, .int .i64 m1, .int .i64 m2] 54)) (by omega)
  have HN := heap_alloc_new ((w.alloc (.cells #[.int .i64 z, .int .i64 d, .int .i64 s, .int .i64 l, .int .i64 a] 23)).alloc (.cells #[.int .i64 x.gen, .int .i64 x.ep, .int .i64 x.pos, .int .i64 x.seq, .int .i64 x.last, .string x.lab, .slice x.HA x.hs.length x.hc] 26)) (.cells #[.int .i64 m0, .int .i64 m1, .int .i64 m2] 54)
  rw [s1] at FF
  rw [s2] at HN
  have hb0 := kal (kal (bl w (.cells #[.int .i64 z, .int .i64 d, .int .i64 s, .int .i64 l, .int .i64 a] 23)) (.cells #[.int .i64 x.gen, .int .i64 x.ep, .int .i64 x.pos, .int .i64 x.seq, .int .i64 x.last, .string x.lab, .slice x.HA x.hs.length x.hc] 26)) (.cells #[.int .i64 m0, .int .i64 m1, .int .i64 m2] 54)
  have l1 : w.heap.size + 2 < (((w.alloc (.cells #[.int .i64 z, .int .i64 d, .int .i64 s, .int .i64 l, .int .i64 a] 23)).alloc (.cells #[.int .i64 x.gen, .int .i64 x.ep, .int .i64 x.pos, .int .i64 x.seq, .int .i64 x.last, .string x.lab, .slice x.HA x.hs.length x.hc] 26)).alloc (.cells #[.int .i64 m0, .int .i64 m1, .int .i64 m2] 54)).heap.size := by simp
  clear hx hh ho s1 s2
  go_enter Tryz.func4, Tryz.ntmps4
  go_upto_region 1 with fail
  generalize (((w.alloc (.cells #[.int .i64 z, .int .i64 d, .int .i64 s, .int .i64 l, .int .i64 a] 23)).alloc (.cells #[.int .i64 x.gen, .int .i64 x.ep, .int .i64 x.pos, .int .i64 x.seq, .int .i64 x.last, .string x.lab, .slice x.HA x.hs.length x.hc] 26)).alloc (.cells #[.int .i64 m0, .int .i64 m1, .int .i64 m2] 54)) = w0 at *
  have y0 : w0.cell? ⟨w.heap.size + 2, 0, none⟩ = some (.int .i64 m0) := by rw [cell_of_row _ _ _ _ _ _ HN]; rfl
  have y1 : w0.cell? ⟨w.heap.size + 2, 1, none⟩ = some (.int .i64 m1) := by rw [cell_of_row _ _ _ _ _ _ HN]; rfl
  have y2 : w0.cell? ⟨w.heap.size + 2, 2, none⟩ = some (.int .i64 m2) := by rw [cell_of_row _ _ _ _ _ _ HN]; rfl
  go_quiet (fail)
  replace GG := GG.keep (below_dn (Below.refl w0.heap.size w0) nq) (by omega)
  replace FF := FF.keep (below_dn (Below.refl w0.heap.size w0) nq) (by omega)
  replace hb0 := bt hb0 (below_dn (Below.refl w0.heap.size w0) nq)
  replace l1 : w.heap.size + 2 < (w0.drewN nq).heap.size := l1
  clear y0 y1 y2 HN
  generalize w0.drewN nq = w1 at *
  obtain ⟨c0, c1, c2, c3, c4, c5, c6⟩ := id FF
  obtain ⟨g0, g1, g2, g3, g4⟩ := id GG
  go_wp2_with (first
    | (go_at_call 5; (with_reducible refine (cH _ hb0).mono ?_); rintro e wq ⟨rfl, hbq⟩; replace FF := FF.keep hbq (by omega); replace GG := GG.keep hbq (by omega); replace l1 := Nat.lt_of_lt_of_le l1 hbq.size; clear c0 c1 c2 c3 c4 c5 c6 g0 g1 g2 g3 g4; obtain ⟨c0, c1, c2, c3, c4, c5, c6⟩ := id FF; obtain ⟨g0, g1, g2, g3, g4⟩ := id GG; replace hb0 := bt hb0 hbq; clear hbq)
    | (go_at_call 11; (with_reducible refine (cG _).mono ?_); rintro e wq ⟨rfl, hbq⟩; replace FF := FF.keep hbq (by omega); replace GG := GG.keep hbq (by omega); replace l1 := Nat.lt_of_lt_of_le l1 hbq.size; clear c0 c1 c2 c3 c4 c5 c6 g0 g1 g2 g3 g4; obtain ⟨c0, c1, c2, c3, c4, c5, c6⟩ := id FF; obtain ⟨g0, g1, g2, g3, g4⟩ := id GG; replace hb0 := bt hb0 hbq; clear hbq)
    | fail)
  go_ret
  exact ⟨rfl, hb0⟩
set_option maxRecDepth 100000 in
set_option maxHeartbeats 8000000 in
theorem left_bad (z d s l a : Int) (x : AV) (yA : Option Addr) (yc n : Nat) (sl0 sq0 at0 m0 m1 m2 : Int) (w : World) (hx : x.In w w.heap.size) (hh : ¬ HeavyA x.d) (hn : ¬ (40 : Int) < (n : Int)) (ho : Ok z d s l a) (hg : ¬ anc.Good z d s l x.d) :
    Calls Tryz.prog 4 #[.agg #[.int .i64 z, .int .i64 d, .int .i64 s, .int .i64 l, .int .i64 a], .agg #[.int .i64 x.gen, .int .i64 x.ep, .int .i64 x.pos, .int .i64 x.seq, .int .i64 x.last, .string x.lab, .slice x.HA x.hs.length x.hc], .slice yA n yc, .int .i64 sl0, .int .i64 sq0, .int .i64 at0, .agg #[.int .i64 m0, .int .i64 m1, .int .i64 m2]] w fun e w' => e = .returned (.bool true) ∧ Below w.heap.size w w' := by
  have cH := fun W (hW : Below w.heap.size w W) => heavy_any false x W (hx.next hW) (iff_of_false Bool.false_ne_true hh)
  have cG := fun W => rgeo_at true z d s l a W (iff_of_true rfl ho)
  obtain ⟨t1, t2, t3⟩ := light hh
  have cR := fun W (hW : Below w.heap.size w W) => right_p z d s l a false x W ho (hx.next hW) (by omega) (fun r hr => by have := t3 r hr; omega) (by omega) (iff_of_false Bool.false_ne_true hg)
  unfold AV.v at *
  have s1 : (w.alloc (.cells #[.int .i64 z, .int .i64 d, .int .i64 s, .int .i64 l, .int .i64 a] 23)).heap.size = w.heap.size + 1 := by simp
  have s2 : ((w.alloc (.cells #[.int .i64 z, .int .i64 d, .int .i64 s, .int .i64 l, .int .i64 a] 23)).alloc (.cells #[.int .i64 x.gen, .int .i64 x.ep, .int .i64 x.pos, .int .i64 x.seq, .int .i64 x.last, .string x.lab, .slice x.HA x.hs.length x.hc] 26)).heap.size = w.heap.size + 2 := by simp
  have GG := (g5_new w z d s l a).keep (kal (bl (w.alloc (.cells #[.int .i64 z, .int .i64 d, .int .i64 s, .int .i64 l, .int .i64 a] 23)) (.cells #[.int .i64 x.gen, .int .i64 x.ep, .int .i64 x.pos, .int .i64 x.seq, .int .i64 x.last, .string x.lab, .slice x.HA x.hs.length x.hc] 26)) (.cells #[.int .i64 m0, .int .i64 m1, .int .i64 m2] 54)) (by simp)
  have FF := (ac_new (w.alloc (.cells #[.int .i64 z, .int .i64 d, .int .i64 s, .int .i64 l, .int .i64 a] 23)) x).keep (bl ((w.alloc (.cells #[.int .i64 z, .int .i64 d, .int .i64 s, .int .i64 l, .int .i64 a] 23)).alloc (.cells #[.int .i64 x.gen, .int .i64 x.ep, .int .i64 x.pos, .int .i64 x.seq, .int .i64 x.last, .string x.lab, .slice x.HA x.hs.length x.hc] 26)) (.cells #[.int .i64 m0, .int .i64 m1, .int .i64 m2] 54)) (by omega)
  have HN := heap_alloc_new ((w.alloc (.cells #[.int .i64 z, .int .i64 d, .int .i64 s, .int .i64 l, .int .i64 a] 23)).alloc (.cells #[.int .i64 x.gen, .int .i64 x.ep, .int .i64 x.pos, .int .i64 x.seq, .int .i64 x.last, .string x.lab, .slice x.HA x.hs.length x.hc] 26)) (.cells #[.int .i64 m0, .int .i64 m1, .int .i64 m2] 54)
  rw [s1] at FF
  rw [s2] at HN
  have hb0 := kal (kal (bl w (.cells #[.int .i64 z, .int .i64 d, .int .i64 s, .int .i64 l, .int .i64 a] 23)) (.cells #[.int .i64 x.gen, .int .i64 x.ep, .int .i64 x.pos, .int .i64 x.seq, .int .i64 x.last, .string x.lab, .slice x.HA x.hs.length x.hc] 26)) (.cells #[.int .i64 m0, .int .i64 m1, .int .i64 m2] 54)
  have l1 : w.heap.size + 2 < (((w.alloc (.cells #[.int .i64 z, .int .i64 d, .int .i64 s, .int .i64 l, .int .i64 a] 23)).alloc (.cells #[.int .i64 x.gen, .int .i64 x.ep, .int .i64 x.pos, .int .i64 x.seq, .int .i64 x.last, .string x.lab, .slice x.HA x.hs.length x.hc] 26)).alloc (.cells #[.int .i64 m0, .int .i64 m1, .int .i64 m2] 54)).heap.size := by simp
  clear hx hh ho hg t1 t2 t3 s1 s2
  go_enter Tryz.func4, Tryz.ntmps4
  go_upto_region 1 with fail
  generalize (((w.alloc (.cells #[.int .i64 z, .int .i64 d, .int .i64 s, .int .i64 l, .int .i64 a] 23)).alloc (.cells #[.int .i64 x.gen, .int .i64 x.ep, .int .i64 x.pos, .int .i64 x.seq, .int .i64 x.last, .string x.lab, .slice x.HA x.hs.length x.hc] 26)).alloc (.cells #[.int .i64 m0, .int .i64 m1, .int .i64 m2] 54)) = w0 at *
  have y0 : w0.cell? ⟨w.heap.size + 2, 0, none⟩ = some (.int .i64 m0) := by rw [cell_of_row _ _ _ _ _ _ HN]; rfl
  have y1 : w0.cell? ⟨w.heap.size + 2, 1, none⟩ = some (.int .i64 m1) := by rw [cell_of_row _ _ _ _ _ _ HN]; rfl
  have y2 : w0.cell? ⟨w.heap.size + 2, 2, none⟩ = some (.int .i64 m2) := by rw [cell_of_row _ _ _ _ _ _ HN]; rfl
  go_quiet (fail)
  replace GG := GG.keep (below_dn (Below.refl w0.heap.size w0) nq) (by omega)
  replace FF := FF.keep (below_dn (Below.refl w0.heap.size w0) nq) (by omega)
  replace hb0 := bt hb0 (below_dn (Below.refl w0.heap.size w0) nq)
  replace l1 : w.heap.size + 2 < (w0.drewN nq).heap.size := l1
  clear y0 y1 y2 HN
  generalize w0.drewN nq = w1 at *
  obtain ⟨c0, c1, c2, c3, c4, c5, c6⟩ := id FF
  obtain ⟨g0, g1, g2, g3, g4⟩ := id GG
  go_wp2_with (first
    | (go_at_call 5; (with_reducible refine (cH _ hb0).mono ?_); rintro e wq ⟨rfl, hbq⟩; replace FF := FF.keep hbq (by omega); replace GG := GG.keep hbq (by omega); replace l1 := Nat.lt_of_lt_of_le l1 hbq.size; clear c0 c1 c2 c3 c4 c5 c6 g0 g1 g2 g3 g4; obtain ⟨c0, c1, c2, c3, c4, c5, c6⟩ := id FF; obtain ⟨g0, g1, g2, g3, g4⟩ := id GG; replace hb0 := bt hb0 hbq; clear hbq)
    | (go_at_call 11; (with_reducible refine (cG _).mono ?_); rintro e wq ⟨rfl, hbq⟩; replace FF := FF.keep hbq (by omega); replace GG := GG.keep hbq (by omega); replace l1 := Nat.lt_of_lt_of_le l1 hbq.size; clear c0 c1 c2 c3 c4 c5 c6 g0 g1 g2 g3 g4; obtain ⟨c0, c1, c2, c3, c4, c5, c6⟩ := id FF; obtain ⟨g0, g1, g2, g3, g4⟩ := id GG; replace hb0 := bt hb0 hbq; clear hbq)
    | (go_at_call 15; (with_reducible refine (cR _ hb0).mono ?_); rintro e wq ⟨rfl, hbq⟩; replace FF := FF.keep hbq (by omega); replace GG := GG.keep hbq (by omega); replace l1 := Nat.lt_of_lt_of_le l1 hbq.size; clear c0 c1 c2 c3 c4 c5 c6 g0 g1 g2 g3 g4; obtain ⟨c0, c1, c2, c3, c4, c5, c6⟩ := id FF; obtain ⟨g0, g1, g2, g3, g4⟩ := id GG; replace hb0 := bt hb0 hbq; clear hbq)
    | fail)
  go_ret
  exact ⟨rfl, hb0⟩
set_option maxRecDepth 100000 in
set_option maxHeartbeats 8000000 in
theorem left_none (z d s l a : Int) (x : AV) (yA : Option Addr) (yc n : Nat) (sl0 sq0 at0 m0 m1 m2 : Int) (w : World) (hx : x.In w w.heap.size) (hh : ¬ HeavyA x.d) (hn : n = 0) (ho : Ok z d s l a) (hg : anc.Good z d s l x.d) :
    Calls Tryz.prog 4 #[.agg #[.int .i64 z, .int .i64 d, .int .i64 s, .int .i64 l, .int .i64 a], .agg #[.int .i64 x.gen, .int .i64 x.ep, .int .i64 x.pos, .int .i64 x.seq, .int .i64 x.last, .string x.lab, .slice x.HA x.hs.length x.hc], .slice yA n yc, .int .i64 sl0, .int .i64 sq0, .int .i64 at0, .agg #[.int .i64 m0, .int .i64 m1, .int .i64 m2]] w fun e w' => e = .returned (.bool true) ∧ Below w.heap.size w w' := by
  have cH := fun W (hW : Below w.heap.size w W) => heavy_any false x W (hx.next hW) (iff_of_false Bool.false_ne_true hh)
  have cG := fun W => rgeo_at true z d s l a W (iff_of_true rfl ho)
  obtain ⟨t1, t2, t3⟩ := light hh
  have cR := fun W (hW : Below w.heap.size w W) => right_p z d s l a true x W ho (hx.next hW) (by omega) (fun r hr => by have := t3 r hr; omega) (by omega) (iff_of_true rfl hg)
  subst hn
  unfold AV.v at *
  have s1 : (w.alloc (.cells #[.int .i64 z, .int .i64 d, .int .i64 s, .int .i64 l, .int .i64 a] 23)).heap.size = w.heap.size + 1 := by simp
  have s2 : ((w.alloc (.cells #[.int .i64 z, .int .i64 d, .int .i64 s, .int .i64 l, .int .i64 a] 23)).alloc (.cells #[.int .i64 x.gen, .int .i64 x.ep, .int .i64 x.pos, .int .i64 x.seq, .int .i64 x.last, .string x.lab, .slice x.HA x.hs.length x.hc] 26)).heap.size = w.heap.size + 2 := by simp
  have GG := (g5_new w z d s l a).keep (kal (bl (w.alloc (.cells #[.int .i64 z, .int .i64 d, .int .i64 s, .int .i64 l, .int .i64 a] 23)) (.cells #[.int .i64 x.gen, .int .i64 x.ep, .int .i64 x.pos, .int .i64 x.seq, .int .i64 x.last, .string x.lab, .slice x.HA x.hs.length x.hc] 26)) (.cells #[.int .i64 m0, .int .i64 m1, .int .i64 m2] 54)) (by simp)
  have FF := (ac_new (w.alloc (.cells #[.int .i64 z, .int .i64 d, .int .i64 s, .int .i64 l, .int .i64 a] 23)) x).keep (bl ((w.alloc (.cells #[.int .i64 z, .int .i64 d, .int .i64 s, .int .i64 l, .int .i64 a] 23)).alloc (.cells #[.int .i64 x.gen, .int .i64 x.ep, .int .i64 x.pos, .int .i64 x.seq, .int .i64 x.last, .string x.lab, .slice x.HA x.hs.length x.hc] 26)) (.cells #[.int .i64 m0, .int .i64 m1, .int .i64 m2] 54)) (by omega)
  have HN := heap_alloc_new ((w.alloc (.cells #[.int .i64 z, .int .i64 d, .int .i64 s, .int .i64 l, .int .i64 a] 23)).alloc (.cells #[.int .i64 x.gen, .int .i64 x.ep, .int .i64 x.pos, .int .i64 x.seq, .int .i64 x.last, .string x.lab, .slice x.HA x.hs.length x.hc] 26)) (.cells #[.int .i64 m0, .int .i64 m1, .int .i64 m2] 54)
  rw [s1] at FF
  rw [s2] at HN
  have hb0 := kal (kal (bl w (.cells #[.int .i64 z, .int .i64 d, .int .i64 s, .int .i64 l, .int .i64 a] 23)) (.cells #[.int .i64 x.gen, .int .i64 x.ep, .int .i64 x.pos, .int .i64 x.seq, .int .i64 x.last, .string x.lab, .slice x.HA x.hs.length x.hc] 26)) (.cells #[.int .i64 m0, .int .i64 m1, .int .i64 m2] 54)
  have l1 : w.heap.size + 2 < (((w.alloc (.cells #[.int .i64 z, .int .i64 d, .int .i64 s, .int .i64 l, .int .i64 a] 23)).alloc (.cells #[.int .i64 x.gen, .int .i64 x.ep, .int .i64 x.pos, .int .i64 x.seq, .int .i64 x.last, .string x.lab, .slice x.HA x.hs.length x.hc] 26)).alloc (.cells #[.int .i64 m0, .int .i64 m1, .int .i64 m2] 54)).heap.size := by simp
  clear hx hh ho hg t1 t2 t3 s1 s2
  go_enter Tryz.func4, Tryz.ntmps4
  go_upto_region 1 with fail
  generalize (((w.alloc (.cells #[.int .i64 z, .int .i64 d, .int .i64 s, .int .i64 l, .int .i64 a] 23)).alloc (.cells #[.int .i64 x.gen, .int .i64 x.ep, .int .i64 x.pos, .int .i64 x.seq, .int .i64 x.last, .string x.lab, .slice x.HA x.hs.length x.hc] 26)).alloc (.cells #[.int .i64 m0, .int .i64 m1, .int .i64 m2] 54)) = w0 at *
  have y0 : w0.cell? ⟨w.heap.size + 2, 0, none⟩ = some (.int .i64 m0) := by rw [cell_of_row _ _ _ _ _ _ HN]; rfl
  have y1 : w0.cell? ⟨w.heap.size + 2, 1, none⟩ = some (.int .i64 m1) := by rw [cell_of_row _ _ _ _ _ _ HN]; rfl
  have y2 : w0.cell? ⟨w.heap.size + 2, 2, none⟩ = some (.int .i64 m2) := by rw [cell_of_row _ _ _ _ _ _ HN]; rfl
  go_quiet (fail)
  replace GG := GG.keep (below_dn (Below.refl w0.heap.size w0) nq) (by omega)
  replace FF := FF.keep (below_dn (Below.refl w0.heap.size w0) nq) (by omega)
  replace hb0 := bt hb0 (below_dn (Below.refl w0.heap.size w0) nq)
  replace l1 : w.heap.size + 2 < (w0.drewN nq).heap.size := l1
  clear y0 y1 y2 HN
  generalize w0.drewN nq = w1 at *
  obtain ⟨c0, c1, c2, c3, c4, c5, c6⟩ := id FF
  obtain ⟨g0, g1, g2, g3, g4⟩ := id GG
  go_wp2_with (first
    | (go_at_call 5; (with_reducible refine (cH _ hb0).mono ?_); rintro e wq ⟨rfl, hbq⟩; replace FF := FF.keep hbq (by omega); replace GG := GG.keep hbq (by omega); replace l1 := Nat.lt_of_lt_of_le l1 hbq.size; clear c0 c1 c2 c3 c4 c5 c6 g0 g1 g2 g3 g4; obtain ⟨c0, c1, c2, c3, c4, c5, c6⟩ := id FF; obtain ⟨g0, g1, g2, g3, g4⟩ := id GG; replace hb0 := bt hb0 hbq; clear hbq)
    | (go_at_call 11; (with_reducible refine (cG _).mono ?_); rintro e wq ⟨rfl, hbq⟩; replace FF := FF.keep hbq (by omega); replace GG := GG.keep hbq (by omega); replace l1 := Nat.lt_of_lt_of_le l1 hbq.size; clear c0 c1 c2 c3 c4 c5 c6 g0 g1 g2 g3 g4; obtain ⟨c0, c1, c2, c3, c4, c5, c6⟩ := id FF; obtain ⟨g0, g1, g2, g3, g4⟩ := id GG; replace hb0 := bt hb0 hbq; clear hbq)
    | (go_at_call 15; (with_reducible refine (cR _ hb0).mono ?_); rintro e wq ⟨rfl, hbq⟩; replace FF := FF.keep hbq (by omega); replace GG := GG.keep hbq (by omega); replace l1 := Nat.lt_of_lt_of_le l1 hbq.size; clear c0 c1 c2 c3 c4 c5 c6 g0 g1 g2 g3 g4; obtain ⟨c0, c1, c2, c3, c4, c5, c6⟩ := id FF; obtain ⟨g0, g1, g2, g3, g4⟩ := id GG; replace hb0 := bt hb0 hbq; clear hbq)
    | fail)
  go_ret
  exact ⟨rfl, hb0⟩
set_option maxRecDepth 100000 in
set_option maxHeartbeats 8000000 in
theorem left_many (z d s l a : Int) (x : AV) (yA : Option Addr) (yc n : Nat) (sl0 sq0 at0 m0 m1 m2 : Int) (w : World) (hx : x.In w w.heap.size) (hh : ¬ HeavyA x.d) (hn : ¬ (40 : Int) < (n : Int)) (h0 : n ≠ 0) (hl : l ≤ (n : Int)) (ho : Ok z d s l a) (hg : anc.Good z d s l x.d) :
    Calls Tryz.prog 4 #[.agg #[.int .i64 z, .int .i64 d, .int .i64 s, .int .i64 l, .int .i64 a], .agg #[.int .i64 x.gen, .int .i64 x.ep, .int .i64 x.pos, .int .i64 x.seq, .int .i64 x.last, .string x.lab, .slice x.HA x.hs.length x.hc], .slice yA n yc, .int .i64 sl0, .int .i64 sq0, .int .i64 at0, .agg #[.int .i64 m0, .int .i64 m1, .int .i64 m2]] w fun e w' => e = .returned (.bool true) ∧ Below w.heap.size w w' := by
  have cH := fun W (hW : Below w.heap.size w W) => heavy_any false x W (hx.next hW) (iff_of_false Bool.false_ne_true hh)
  have cG := fun W => rgeo_at true z d s l a W (iff_of_true rfl ho)
  obtain ⟨t1, t2, t3⟩ := light hh
  have cR := fun W (hW : Below w.heap.size w W) => right_p z d s l a true x W ho (hx.next hW) (by omega) (fun r hr => by have := t3 r hr; omega) (by omega) (iff_of_true rfl hg)
  have q0 : ((n : Int) == 0) = false := beq_eq_false_iff_ne.2 (by omega)
  unfold AV.v at *
  have s1 : (w.alloc (.cells #[.int .i64 z, .int .i64 d, .int .i64 s, .int .i64 l, .int .i64 a] 23)).heap.size = w.heap.size + 1 := by simp
  have s2 : ((w.alloc (.cells #[.int .i64 z, .int .i64 d, .int .i64 s, .int .i64 l, .int .i64 a] 23)).alloc (.cells #[.int .i64 x.gen, .int .i64 x.ep, .int .i64 x.pos, .int .i64 x.seq, .int .i64 x.last, .string x.lab, .slice x.HA x.hs.length x.hc] 26)).heap.size = w.heap.size + 2 := by simp
  have GG := (g5_new w z d s l a).keep (kal (bl (w.alloc (.cells #[.int .i64 z, .int .i64 d, .int .i64 s, .int .i64 l, .int .i64 a] 23)) (.cells #[.int .i64 x.gen, .int .i64 x.ep, .int .i64 x.pos, .int .i64 x.seq, .int .i64 x.last, .string x.lab, .slice x.HA x.hs.length x.hc] 26)) (.cells #[.int .i64 m0, .int .i64 m1, .int .i64 m2] 54)) (by simp)
  have FF := (ac_new (w.alloc (.cells #[.int .i64 z, .int .i64 d, .int .i64 s, .int .i64 l, .int .i64 a] 23)) x).keep (bl ((w.alloc (.cells #[.int .i64 z, .int .i64 d, .int .i64 s, .int .i64 l, .int .i64 a] 23)).alloc (.cells #[.int .i64 x.gen, .int .i64 x.ep, .int .i64 x.pos, .int .i64 x.seq, .int .i64 x.last, .string x.lab, .slice x.HA x.hs.length x.hc] 26)) (.cells #[.int .i64 m0, .int .i64 m1, .int .i64 m2] 54)) (by omega)
  have HN := heap_alloc_new ((w.alloc (.cells #[.int .i64 z, .int .i64 d, .int .i64 s, .int .i64 l, .int .i64 a] 23)).alloc (.cells #[.int .i64 x.gen, .int .i64 x.ep, .int .i64 x.pos, .int .i64 x.seq, .int .i64 x.last, .string x.lab, .slice x.HA x.hs.length x.hc] 26)) (.cells #[.int .i64 m0, .int .i64 m1, .int .i64 m2] 54)
  rw [s1] at FF
  rw [s2] at HN
  have hb0 := kal (kal (bl w (.cells #[.int .i64 z, .int .i64 d, .int .i64 s, .int .i64 l, .int .i64 a] 23)) (.cells #[.int .i64 x.gen, .int .i64 x.ep, .int .i64 x.pos, .int .i64 x.seq, .int .i64 x.last, .string x.lab, .slice x.HA x.hs.length x.hc] 26)) (.cells #[.int .i64 m0, .int .i64 m1, .int .i64 m2] 54)
  have l1 : w.heap.size + 2 < (((w.alloc (.cells #[.int .i64 z, .int .i64 d, .int .i64 s, .int .i64 l, .int .i64 a] 23)).alloc (.cells #[.int .i64 x.gen, .int .i64 x.ep, .int .i64 x.pos, .int .i64 x.seq, .int .i64 x.last, .string x.lab, .slice x.HA x.hs.length x.hc] 26)).alloc (.cells #[.int .i64 m0, .int .i64 m1, .int .i64 m2] 54)).heap.size := by simp
  clear hx hh ho hg t1 t2 t3 h0 s1 s2
  go_enter Tryz.func4, Tryz.ntmps4
  go_upto_region 1 with fail
  generalize (((w.alloc (.cells #[.int .i64 z, .int .i64 d, .int .i64 s, .int .i64 l, .int .i64 a] 23)).alloc (.cells #[.int .i64 x.gen, .int .i64 x.ep, .int .i64 x.pos, .int .i64 x.seq, .int .i64 x.last, .string x.lab, .slice x.HA x.hs.length x.hc] 26)).alloc (.cells #[.int .i64 m0, .int .i64 m1, .int .i64 m2] 54)) = w0 at *
  have y0 : w0.cell? ⟨w.heap.size + 2, 0, none⟩ = some (.int .i64 m0) := by rw [cell_of_row _ _ _ _ _ _ HN]; rfl
  have y1 : w0.cell? ⟨w.heap.size + 2, 1, none⟩ = some (.int .i64 m1) := by rw [cell_of_row _ _ _ _ _ _ HN]; rfl
  have y2 : w0.cell? ⟨w.heap.size + 2, 2, none⟩ = some (.int .i64 m2) := by rw [cell_of_row _ _ _ _ _ _ HN]; rfl
  go_quiet (fail)
  replace GG := GG.keep (below_dn (Below.refl w0.heap.size w0) nq) (by omega)
  replace FF := FF.keep (below_dn (Below.refl w0.heap.size w0) nq) (by omega)
  replace hb0 := bt hb0 (below_dn (Below.refl w0.heap.size w0) nq)
  replace l1 : w.heap.size + 2 < (w0.drewN nq).heap.size := l1
  clear y0 y1 y2 HN
  generalize w0.drewN nq = w1 at *
  obtain ⟨c0, c1, c2, c3, c4, c5, c6⟩ := id FF
  obtain ⟨g0, g1, g2, g3, g4⟩ := id GG
  go_wp2_with (first
    | (go_at_call 5; (with_reducible refine (cH _ hb0).mono ?_); rintro e wq ⟨rfl, hbq⟩; replace FF := FF.keep hbq (by omega); replace GG := GG.keep hbq (by omega); replace l1 := Nat.lt_of_lt_of_le l1 hbq.size; clear c0 c1 c2 c3 c4 c5 c6 g0 g1 g2 g3 g4; obtain ⟨c0, c1, c2, c3, c4, c5, c6⟩ := id FF; obtain ⟨g0, g1, g2, g3, g4⟩ := id GG; replace hb0 := bt hb0 hbq; clear hbq)
    | (go_at_call 11; (with_reducible refine (cG _).mono ?_); rintro e wq ⟨rfl, hbq⟩; replace FF := FF.keep hbq (by omega); replace GG := GG.keep hbq (by omega); replace l1 := Nat.lt_of_lt_of_le l1 hbq.size; clear c0 c1 c2 c3 c4 c5 c6 g0 g1 g2 g3 g4; obtain ⟨c0, c1, c2, c3, c4, c5, c6⟩ := id FF; obtain ⟨g0, g1, g2, g3, g4⟩ := id GG; replace hb0 := bt hb0 hbq; clear hbq)
    | (go_at_call 15; (with_reducible refine (cR _ hb0).mono ?_); rintro e wq ⟨rfl, hbq⟩; replace FF := FF.keep hbq (by omega); replace GG := GG.keep hbq (by omega); replace l1 := Nat.lt_of_lt_of_le l1 hbq.size; clear c0 c1 c2 c3 c4 c5 c6 g0 g1 g2 g3 g4; obtain ⟨c0, c1, c2, c3, c4, c5, c6⟩ := id FF; obtain ⟨g0, g1, g2, g3, g4⟩ := id GG; replace hb0 := bt hb0 hbq; clear hbq)
    | fail)
  go_ret
  exact ⟨rfl, hb0⟩
end Go.Proofs.YtpcadoekhoediaaGreatDoor.prr

namespace Go.Proofs.YtpcadoekhoediaaGreatDoor.prr
open Go.RowKit Go.Lib
open Go.Proofs.YtpcadoekhoediaaGreatDoor.gmt (Ok rgeo_at)
open Go.Proofs.YtpcadoekhoediaaGreatDoor.anc (AV AC ac_new bl kal kst ks bm ka HeavyA light heavy_any right_p)
open Go.Proofs.YtpcadoekhoediaaGreatDoor.tbl (G5 g5_new)
open Go.Proofs.YtpcadoekhoediaaGreatDoor.lrc (Rcd RcR txnR ImsOk ImOk NumOk RecOk rimage_c rrecords_c rds ownR_in RV)
open Go.Proofs.YtpcadoekhoediaaGreatDoor.img

theorem wrap_modG (i M : Int) (hM : 0 < M) : ∃ a : Nat, (a : Int) < M ∧ (IntKind.u64.wrap i).tmod M = (a : Int) := by
  obtain ⟨h1, h2⟩ := gmt.wrap_mod i M hM
  exact ⟨((IntKind.u64.wrap i).tmod M).toNat, by omega, by omega⟩
theorem bool_isG (P : Prop) : ∃ b : Bool, b = true ↔ P := by
  by_cases h : P
  · exact ⟨true, iff_of_true rfl h⟩
  · exact ⟨false, iff_of_false Bool.false_ne_true h⟩
theorem recOk_len {z d : Int} {r : Rcd} (h : RecOk z d r) (hd : 1 ≤ d ∧ d ≤ 4) : r.l.length ≤ 45 := by
  rcases h with ⟨-, -, -, -, -, -, -, h⟩ | ⟨-, -, -, -, -, h⟩ | ⟨-, -, -, h⟩
  · rw [h]; exact Nat.zero_le _
  · rw [h]; exact Nat.zero_le _
  · exact (lrc.imOk_len h hd).1
theorem own_oneG {w : World} {base : Nat} {x : Int} {v : Value} (h : OwnV w base 3 v ([] ++ [.int .i64 x])) : ∃ (A : Option Addr) (c : Nat), v = .slice A 1 c ∧ SlV w w.heap.size A (ints [x]) := by
  obtain ⟨A, c, he, -, -, hsl, -⟩ := h.form
  exact ⟨A, c, he, hsl⟩
set_option maxRecDepth 100000 in
set_option maxHeartbeats 8000000 in
theorem left_main (z d s l a : Int) (x : AV) (v : IV) (n : Nat) (sl0 sq0 at0 m0 m1 m2 : Int) (w : World) (hc : Cpr w) (hk : ∀ W, Below w.heap.size w W → Calls Tryz.prog 13 #[] W fun e w' => e = .returned (.bool true) ∧ Below W.heap.size W w') (hx : x.In w w.heap.size) (hv : v.In w w.heap.size) (hvn : v.rs.length = n) (hh : ¬ HeavyA x.d) (hn : ¬ (40 : Int) < (n : Int)) (h0 : n ≠ 0) (hl : ¬ l ≤ (n : Int)) (ho : Ok z d s l a) (hg : anc.Good z d s l x.d) :
    Calls Tryz.prog 4 #[.agg #[.int .i64 z, .int .i64 d, .int .i64 s, .int .i64 l, .int .i64 a], .agg #[.int .i64 x.gen, .int .i64 x.ep, .int .i64 x.pos, .int .i64 x.seq, .int .i64 x.last, .string x.lab, .slice x.HA x.hs.length x.hc], .slice v.A n v.c, .int .i64 sl0, .int .i64 sq0, .int .i64 at0, .agg #[.int .i64 m0, .int .i64 m1, .int .i64 m2]] w fun e w' => e = .returned (.bool true) ∧ Below w.heap.size w w' := by
  have cH := fun W (hW : Below w.heap.size w W) => heavy_any false x W (hx.next hW) (iff_of_false Bool.false_ne_true hh)
  have cG := fun W => rgeo_at true z d s l a W (iff_of_true rfl ho)
  obtain ⟨t1, t2, t3⟩ := light hh
  have cR := fun W (hW : Below w.heap.size w W) => right_p z d s l a true x W ho (hx.next hW) (by omega) (fun r hr => by have := t3 r hr; omega) (by omega) (iff_of_true rfl hg)
  have HLAB := Lib.hid (show x.lab.size ≤ 4294967295 by omega)
  have q0 : ((n : Int) == 0) = false := beq_eq_false_iff_ne.2 (by omega)
  have q1 : decide (l ≤ (n : Int)) = false := decide_eq_false hl
  have HC := Lib.hid hc
  have HK := Lib.hid hk
  have HX := Lib.hid hx
  have HO := Lib.hid ho
  have HGD := Lib.hid hg
  have HV := Lib.hid hv
  have HVN := Lib.hid hvn
  have hll : 14 ≤ l ∧ l ≤ 30 := ho.2.2.2.1
  have HLN := Lib.hid (show (n : Int) < l by omega)
  have HN1 := Lib.hid (show 1 ≤ n by omega)
  unfold AV.v at *
  have s1 : (w.alloc (.cells #[.int .i64 z, .int .i64 d, .int .i64 s, .int .i64 l, .int .i64 a] 23)).heap.size = w.heap.size + 1 := by simp
  have s2 : ((w.alloc (.cells #[.int .i64 z, .int .i64 d, .int .i64 s, .int .i64 l, .int .i64 a] 23)).alloc (.cells #[.int .i64 x.gen, .int .i64 x.ep, .int .i64 x.pos, .int .i64 x.seq, .int .i64 x.last, .string x.lab, .slice x.HA x.hs.length x.hc] 26)).heap.size = w.heap.size + 2 := by simp
  have GG := (g5_new w z d s l a).keep (kal (bl (w.alloc (.cells #[.int .i64 z, .int .i64 d, .int .i64 s, .int .i64 l, .int .i64 a] 23)) (.cells #[.int .i64 x.gen, .int .i64 x.ep, .int .i64 x.pos, .int .i64 x.seq, .int .i64 x.last, .string x.lab, .slice x.HA x.hs.length x.hc] 26)) (.cells #[.int .i64 m0, .int .i64 m1, .int .i64 m2] 54)) (by simp)
  have FF := (ac_new (w.alloc (.cells #[.int .i64 z, .int .i64 d, .int .i64 s, .int .i64 l, .int .i64 a] 23)) x).keep (bl ((w.alloc (.cells #[.int .i64 z, .int .i64 d, .int .i64 s, .int .i64 l, .int .i64 a] 23)).alloc (.cells #[.int .i64 x.gen, .int .i64 x.ep, .int .i64 x.pos, .int .i64 x.seq, .int .i64 x.last, .string x.lab, .slice x.HA x.hs.length x.hc] 26)) (.cells #[.int .i64 m0, .int .i64 m1, .int .i64 m2] 54)) (by omega)
  have HN := heap_alloc_new ((w.alloc (.cells #[.int .i64 z, .int .i64 d, .int .i64 s, .int .i64 l, .int .i64 a] 23)).alloc (.cells #[.int .i64 x.gen, .int .i64 x.ep, .int .i64 x.pos, .int .i64 x.seq, .int .i64 x.last, .string x.lab, .slice x.HA x.hs.length x.hc] 26)) (.cells #[.int .i64 m0, .int .i64 m1, .int .i64 m2] 54)
  rw [s1] at FF
  rw [s2] at HN
  have hb0 := kal (kal (bl w (.cells #[.int .i64 z, .int .i64 d, .int .i64 s, .int .i64 l, .int .i64 a] 23)) (.cells #[.int .i64 x.gen, .int .i64 x.ep, .int .i64 x.pos, .int .i64 x.seq, .int .i64 x.last, .string x.lab, .slice x.HA x.hs.length x.hc] 26)) (.cells #[.int .i64 m0, .int .i64 m1, .int .i64 m2] 54)
  have l1 : w.heap.size + 2 < (((w.alloc (.cells #[.int .i64 z, .int .i64 d, .int .i64 s, .int .i64 l, .int .i64 a] 23)).alloc (.cells #[.int .i64 x.gen, .int .i64 x.ep, .int .i64 x.pos, .int .i64 x.seq, .int .i64 x.last, .string x.lab, .slice x.HA x.hs.length x.hc] 26)).alloc (.cells #[.int .i64 m0, .int .i64 m1, .int .i64 m2] 54)).heap.size := by simp
  clear hx hh ho hg t1 t3 hc hk hv hvn h0 hl s1 s2
  go_enter Tryz.func4, Tryz.ntmps4
  go_upto_region 1 with fail
  generalize (((w.alloc (.cells #[.int .i64 z, .int .i64 d, .int .i64 s, .int .i64 l, .int .i64 a] 23)).alloc (.cells #[.int .i64 x.gen, .int .i64 x.ep, .int .i64 x.pos, .int .i64 x.seq, .int .i64 x.last, .string x.lab, .slice x.HA x.hs.length x.hc] 26)).alloc (.cells #[.int .i64 m0, .int .i64 m1, .int .i64 m2] 54)) = w0 at *
  have y0 : w0.cell? ⟨w.heap.size + 2, 0, none⟩ = some (.int .i64 m0) := by rw [cell_of_row _ _ _ _ _ _ HN]; rfl
  have y1 : w0.cell? ⟨w.heap.size + 2, 1, none⟩ = some (.int .i64 m1) := by rw [cell_of_row _ _ _ _ _ _ HN]; rfl
  have y2 : w0.cell? ⟨w.heap.size + 2, 2, none⟩ = some (.int .i64 m2) := by rw [cell_of_row _ _ _ _ _ _ HN]; rfl
  go_quiet (fail)
  replace GG := GG.keep (below_dn (Below.refl w0.heap.size w0) nq) (by omega)
  replace FF := FF.keep (below_dn (Below.refl w0.heap.size w0) nq) (by omega)
  replace hb0 := bt hb0 (below_dn (Below.refl w0.heap.size w0) nq)
  replace l1 : w.heap.size + 2 < (w0.drewN nq).heap.size := l1
  clear y0 y1 y2 HN
  generalize w0.drewN nq = w1 at *
  obtain ⟨c0, c1, c2, c3, c4, c5, c6⟩ := id FF
  obtain ⟨g0, g1, g2, g3, g4⟩ := id GG
  go_upto_region 5 with (first
    | (go_at_call 5; (with_reducible refine (cH _ hb0).mono ?_); rintro e wq ⟨rfl, hbq⟩; replace FF := FF.keep hbq (by omega); replace GG := GG.keep hbq (by omega); replace l1 := Nat.lt_of_lt_of_le l1 hbq.size; clear c0 c1 c2 c3 c4 c5 c6 g0 g1 g2 g3 g4; obtain ⟨c0, c1, c2, c3, c4, c5, c6⟩ := id FF; obtain ⟨g0, g1, g2, g3, g4⟩ := id GG; replace hb0 := bt hb0 hbq; clear hbq)
    | (go_at_call 11; (with_reducible refine (cG _).mono ?_); rintro e wq ⟨rfl, hbq⟩; replace FF := FF.keep hbq (by omega); replace GG := GG.keep hbq (by omega); replace l1 := Nat.lt_of_lt_of_le l1 hbq.size; clear c0 c1 c2 c3 c4 c5 c6 g0 g1 g2 g3 g4; obtain ⟨c0, c1, c2, c3, c4, c5, c6⟩ := id FF; obtain ⟨g0, g1, g2, g3, g4⟩ := id GG; replace hb0 := bt hb0 hbq; clear hbq)
    | (go_at_call 15; (with_reducible refine (cR _ hb0).mono ?_); rintro e wq ⟨rfl, hbq⟩; replace FF := FF.keep hbq (by omega); replace GG := GG.keep hbq (by omega); replace l1 := Nat.lt_of_lt_of_le l1 hbq.size; clear c0 c1 c2 c3 c4 c5 c6 g0 g1 g2 g3 g4; obtain ⟨c0, c1, c2, c3, c4, c5, c6⟩ := id FF; obtain ⟨g0, g1, g2, g3, g4⟩ := id GG; replace hb0 := bt hb0 hbq; clear hbq)
    | fail)
  have HMG := Lib.hid (show ∀ W, Below wq.heap.size wq W → G5 W w.heap.size z d s l a ∧ AC W (w.heap.size + 1) x from fun W hW => ⟨GG.keep hW (by omega), FF.keep hW (by omega)⟩)
  have hw0 := Lib.hid hb0
  have HVW := Lib.hid (show ∀ W, Below wq.heap.size wq W → v.In W W.heap.size from fun W hW => HV.out.next (bt hb0 hW))
  clear c0 c1 c2 c3 c4 c5 c6 g0 g1 g2 g3 g4 GG FF cH cG cR
  go_loopw [18] (fun i w' => ∃ k : Nat, k ≤ n ∧ i = .int .i64 (k : Int) ∧ (∀ y ∈ (ids v.rs).take k, ImOk z d y.1 y.2.1 y.2.2) ∧ Below wq.heap.size wq w') (fun i _ => n - (RowKit.intOf i).toNat)
  case atStart => exact ⟨0, by omega, rfl, by simp, Below.refl _ _⟩
  case round =>
    obtain ⟨w5, rfl⟩ : ∃ x, x = wr := ⟨wr, rfl⟩
    obtain ⟨k, hk, rfl, hs, hbr⟩ := hrel
    have lw := hbr.size
    have HS := Lib.hid hs
    clear hs
    obtain ⟨⟨g0, g1, g2, g3, g4⟩, FF5⟩ := HMG.out w5 hbr
    by_cases hlt : k < n
    · have j1 : (k : Int) < (n : Int) := by omega
      obtain ⟨b1, off, y, hA, hb1, e0, e1, e2, hbi, hym, -, hyd⟩ := img_at (HVW.out w5 hbr).h (HVW.out w5 hbr).i (show k < v.rs.length by rw [HVN.out]; exact hlt)
      obtain ⟨c, hcc⟩ := bool_isG (ImOk z d y.z y.wh y.l)
      have HIM := Lib.hid (show ∀ W, Below w5.heap.size w5 W → Calls Tryz.prog 18 #[.agg #[.int .i64 z, .int .i64 d, .int .i64 s, .int .i64 l, .int .i64 a], .agg #[.int .i64 y.z, .int .i64 y.wh, .slice y.A y.l.length y.c]] W fun e w' => e = .returned (.bool c) ∧ Below W.heap.size W w' from fun W hW => rimage_c c z d s l a y y.l.length W HO.out (hbi.next hW) rfl hcc)
      have HCC := Lib.hid hcc
      have HYD := Lib.hid (show (ids v.rs)[k]? = some (y.z, y.wh, y.l) from hyd)
      have G5' := (HMG.out w5 hbr).1
      have lg5 : w.heap.size + 2 < w5.heap.size := by omega
      rw [hA]
      have HF := Lib.hid (show ∀ W, Below w5.heap.size w5 W → (W.cell? ⟨w.heap.size, 0, none⟩ = some (.int .i64 z) ∧ W.cell? ⟨w.heap.size, 1, none⟩ = some (.int .i64 d) ∧ W.cell? ⟨w.heap.size, 2, none⟩ = some (.int .i64 s) ∧ W.cell? ⟨w.heap.size, 3, none⟩ = some (.int .i64 l) ∧ W.cell? ⟨w.heap.size, 4, none⟩ = some (.int .i64 a) ∧ W.cell? ⟨b1, off + k * 3, none⟩ = some (.int .i64 y.z) ∧ W.cell? ⟨b1, off + k * 3 + 1, none⟩ = some (.int .i64 y.wh) ∧ W.cell? ⟨b1, off + k * 3 + 2, none⟩ = some (.slice y.A y.l.length y.c)) ∧ Below w5.heap.size w5 W from fun W h => by
        obtain ⟨g0, g1, g2, g3, g4⟩ := G5'.keep h (by omega)
        exact ⟨⟨g0, g1, g2, g3, g4, ks h hb1 e0, ks h hb1 e1, ks h hb1 e2⟩, h⟩)
      have hd0 := below_dr (Below.refl w5.heap.size w5)
      clear hA hbi hym hyd hcc G5' FF5
      go_upto_region 7 with fail
      go_region_held3 (fun W => (W.cell? ⟨w.heap.size, 0, none⟩ = some (.int .i64 z) ∧ W.cell? ⟨w.heap.size, 1, none⟩ = some (.int .i64 d) ∧ W.cell? ⟨w.heap.size, 2, none⟩ = some (.int .i64 s) ∧ W.cell? ⟨w.heap.size, 3, none⟩ = some (.int .i64 l) ∧ W.cell? ⟨w.heap.size, 4, none⟩ = some (.int .i64 a) ∧ W.cell? ⟨b1, off + k * 3, none⟩ = some (.int .i64 y.z) ∧ W.cell? ⟨b1, off + k * 3 + 1, none⟩ = some (.int .i64 y.wh) ∧ W.cell? ⟨b1, off + k * 3 + 2, none⟩ = some (.slice y.A y.l.length y.c)) ∧ Below w5.heap.size w5 W)
        ((refine HF.out _ ?_; first
          | with_reducible exact hbA
          | with_reducible exact hd0
          | fail))
        (first
          | (go_at_call 18; (with_reducible refine (HIM.out _ hd0).mono ?_); rintro e w6 ⟨rfl, hbq⟩; have hbA : Below w5.heap.size w5 w6 := bt hd0 hbq; clear hbq)
          | fail)
      cases c
      · go_wp2_with fail
        go_ret
        exact ⟨rfl, bt hw0.out (hbr.trans (hbA.mono lw))⟩
      · go_wp2_with fail
        go_roundw
        case rel => exact ⟨k + 1, by omega, by go_num, fun q hq => by
          rw [List.take_add_one, HYD.out] at hq
          rcases List.mem_append.1 hq with p | p
          · exact HS.out q p
          · obtain rfl := List.mem_singleton.1 p
            exact HCC.out.1 (by first | rfl | trivial), hbr.trans (hbA.mono lw)⟩
        case measure => simp [RowKit.intOf]; omega
    · have j1 : ¬ (k : Int) < (n : Int) := by omega
      obtain rfl : k = n := by omega
      have HIO := Lib.hid (show ImsOk z d (ids v.rs) from fun q hq => HS.out q (by rw [List.take_of_length_le (by rw [ids_length, HVN.out]; exact Nat.le_refl _)]; exact hq))
      clear HS
      obtain ⟨SL, sl1, sl2⟩ := wrap_modG sl0 l (by omega)
      obtain ⟨SQ, sq1, sq2⟩ := wrap_modG sq0 1000000 (by omega)
      obtain ⟨BT, bt1, bt2⟩ := wrap_modG m2 1000000 (by omega)
      obtain ⟨N1, hN1⟩ : ∃ N1, N1 = k + 1 := ⟨_, rfl⟩
      obtain ⟨AT, at1, at2⟩ := wrap_modG at0 (N1 : Int) (by omega)
      have u1 : IntKind.u64.wrap l = l := IntWalk.u64_in _ (by omega)
      have u2 : IntKind.i64.wrap (SL : Int) = (SL : Int) := IntWalk.i64_in _ (by omega)
      have u3 : IntKind.i64.wrap (SQ : Int) = (SQ : Int) := IntWalk.i64_in _ (by omega)
      have u4 : IntKind.i64.wrap (BT : Int) = (BT : Int) := IntWalk.i64_in _ (by omega)
      have u5 : IntKind.u64.wrap (N1 : Int) = (N1 : Int) := IntWalk.u64_in _ (by omega)
      have u6 : IntKind.i64.wrap (AT : Int) = (AT : Int) := IntWalk.i64_in _ (by omega)
      have z1 : ¬ l = 0 := by omega
      have z2 : (l == 0) = false := beq_eq_false_iff_ne.2 z1
      have z3 : ¬ (N1 : Int) = 0 := by omega
      have z4 : ((N1 : Int) == 0) = false := beq_eq_false_iff_ne.2 z3
      have HN2 := Lib.hid hN1
      have HSQ := Lib.hid (show NumOk (SQ : Int) from ⟨by omega, by omega⟩)
      have HEP := Lib.hid (show NumOk x.ep from HGD.out.2.1)
      have HRC := Lib.hid (show ∀ W, Below wq.heap.size wq W → Calls Tryz.prog 19 #[.int .i64 (SQ : Int), .int .i64 x.ep, .slice v.A k v.c] W fun e w' => (∃ (A : Option Addr) (c : Nat) (rs : List RcR), e = .returned (.slice A N1 c) ∧ rs.length = N1 ∧ rds rs = txnR SQ x.ep (ids v.rs) ∧ RV.In w' w'.heap.size ⟨A, c, rs⟩) ∧ Below W.heap.size W w' from fun W hW => by
        refine (rrecords_c SQ x.ep v k W (HVW.out W hW) HVN.out (by omega) (fun q hq => by
          have h9 := lrc.imOk_len (HIO.out q.d (List.mem_map.2 ⟨q, hq, rfl⟩)) HO.out.2.1
          have h9 : q.l.length ≤ 45 ∧ 8 ≤ q.l.length := h9
          omega)).mono ?_
        rintro e w' ⟨⟨V, rs, rfl, hrs, hO⟩, hb⟩
        obtain ⟨A, c, rfl, hin⟩ := ownR_in hO
        have hl9 : rs.length = N1 := by
          have := congrArg List.length hrs
          rw [lrc.rds_length, lrc.txnR_length, ids_length, HVN.out] at this
          rw [hN1]
          exact this
        exact ⟨⟨A, c, rs, by rw [hl9], hl9, hrs, hin⟩, hb⟩)
      clear hN1
      obtain ⟨c0, c1, c2, c3, c4, c5, c6⟩ := id FF5
      go_upto_region 11 with (go_at_call 19; (with_reducible refine (HRC.out _ hbr).mono ?_); rintro e w6 ⟨⟨A, c, rs, rfl, hrl, hrs, hin⟩, hbq⟩)
      go_upto_region 12 with fail
      obtain ⟨r, hr1, hr2, hr3, hr4, hr5, hr6, hr7⟩ := txn_rec (z := z) (d := d) (sq := SQ) (ep := x.ep) (ds := ids v.rs) (k := AT) (by rw [ids_length, HVN.out]; have := HLN.out; have := HN1.out; omega) HIO.out HSQ.out HEP.out (by rw [ids_length, HVN.out]; have := HN2.out; omega)
      obtain ⟨b1, off, rr, hA, hb1, e0, e1, e2, e3, e4, e5, e6, e7, hri, hrm, hrr⟩ := lrc.rec_at hin.h hin.i (show AT < rs.length by rw [hrl]; omega)
      have hrd : rr.d = r := by
        have h9 : (rds rs)[AT]? = some rr.d := by simp [lrc.rds, hrr]
        rw [hrs, hr1] at h9
        exact (Option.some.inj h9).symm
      obtain ⟨qq, hqq⟩ : ∃ qq, qq = (lrc.encR rr.d).length := ⟨_, rfl⟩
      have hRO : RecOk z d rr.d := by rw [hrd]; exact hr2
      have hS0 : lrc.SlotOk l 0 (SL : Int) := ⟨.inl rfl, by omega, by omega⟩
      obtain ⟨E0, hE0⟩ : ∃ E, E = sel.enc (lrc.cellN l a 0 SL) rr.d.sq.toNat (lrc.encR rr.d) := ⟨_, rfl⟩
      have HCE := Lib.hid (show ∀ W, Below w6.heap.size w6 W → Calls Tryz.prog 21 #[.agg #[.int .i64 z, .int .i64 d, .int .i64 s, .int .i64 l, .int .i64 a], .agg #[.int .i64 rr.kd, .int .i64 rr.sq, .int .i64 rr.ep, .int .i64 rr.ps, .int .i64 rr.nm, .int .i64 rr.i.z, .int .i64 rr.i.wh, .slice rr.i.A rr.i.l.length rr.i.c], .int .i64 0, .int .i64 (SL : Int)] W fun e w' => CellA (qq + 11) E0 e w' ∧ Below W.heap.size W w' from fun W hW => by
        rw [hE0]
        exact celll_c z d s l a 0 SL rr _ qq W HO.out (hri.next hW) rfl hRO hS0 hqq.symm)
      have HSP := Lib.hid (show ∀ (G : Gt) (W : World), G.In W W.heap.size → G.e = 0 ∧ G.l = E0 → E0.length = qq + 11 → Calls Tryz.prog 20 #[.agg #[.int .i64 z, .int .i64 d, .int .i64 s, .int .i64 l, .int .i64 a], .agg #[.int .i64 G.e, .slice G.A (qq + 11) G.c], .int .i64 m0, .int .i64 (BT : Int)] W fun e w' => (∃ (ok : Bool) (e' : Int) (b : List UInt8), (ok = true → e' = 0 ∧ b = E0) ∧ (ok = false → ∀ ad, ¬ SayOk z d e' b ad) ∧ SpA ok e' b e w') ∧ Below W.heap.size W w' from fun G W hi hG hl => by
        refine (spoil_c z d s l a G (qq + 11) m0 BT rr.d (lrc.cellN l a 0 SL) W hi (by rw [hG.2]; exact hl) HO.out hRO hG.1 (by rw [hG.2, hE0])).mono ?_
        rintro e w' ⟨⟨ok, e', b, h1, h2, h3⟩, hb⟩
        exact ⟨⟨ok, e', b, fun k => ⟨(h1 k).1, by rw [(h1 k).2, hG.2]⟩, h2, h3⟩, hb⟩)
      have hS1 : lrc.SlotOk l 1 (SL : Int) := ⟨.inr rfl, by omega, by omega⟩
      obtain ⟨E1, hE1⟩ : ∃ E, E = sel.enc (lrc.cellN l a 1 SL) rr.d.sq.toNat (lrc.encR rr.d) := ⟨_, rfl⟩
      have HCE1 := Lib.hid (show ∀ W, Below w6.heap.size w6 W → Calls Tryz.prog 21 #[.agg #[.int .i64 z, .int .i64 d, .int .i64 s, .int .i64 l, .int .i64 a], .agg #[.int .i64 rr.kd, .int .i64 rr.sq, .int .i64 rr.ep, .int .i64 rr.ps, .int .i64 rr.nm, .int .i64 rr.i.z, .int .i64 rr.i.wh, .slice rr.i.A rr.i.l.length rr.i.c], .int .i64 1, .int .i64 (SL : Int)] W fun e w' => CellA (qq + 11) E1 e w' ∧ Below W.heap.size W w' from fun W hW => by
        rw [hE1]
        exact celll_c z d s l a 1 SL rr _ qq W HO.out (hri.next hW) rfl hRO hS1 hqq.symm)
      have HSP1 := Lib.hid (show ∀ (G : Gt) (W : World), G.In W W.heap.size → G.e = 0 ∧ G.l = E1 → E1.length = qq + 11 → Calls Tryz.prog 20 #[.agg #[.int .i64 z, .int .i64 d, .int .i64 s, .int .i64 l, .int .i64 a], .agg #[.int .i64 G.e, .slice G.A (qq + 11) G.c], .int .i64 m1, .int .i64 (BT : Int)] W fun e w' => (∃ (ok : Bool) (e' : Int) (b : List UInt8), (ok = true → e' = 0 ∧ b = E1) ∧ (ok = false → ∀ ad, ¬ SayOk z d e' b ad) ∧ SpA ok e' b e w') ∧ Below W.heap.size W w' from fun G W hi hG hl => by
        refine (spoil_c z d s l a G (qq + 11) m1 BT rr.d (lrc.cellN l a 1 SL) W hi (by rw [hG.2]; exact hl) HO.out hRO hG.1 (by rw [hG.2, hE1])).mono ?_
        rintro e w' ⟨⟨ok, e', b, h1, h2, h3⟩, hb⟩
        exact ⟨⟨ok, e', b, fun k => ⟨(h1 k).1, by rw [(h1 k).2, hG.2]⟩, h2, h3⟩, hb⟩)
      have G6 := (HMG.out w6 (hbr.trans (hbq.mono lw))).1
      have l6 : w.heap.size + 2 < w6.heap.size := by have := hbq.size; omega
      have HF := Lib.hid (show ∀ W, Below w6.heap.size w6 W → (W.cell? ⟨w.heap.size, 0, none⟩ = some (.int .i64 z) ∧ W.cell? ⟨w.heap.size, 1, none⟩ = some (.int .i64 d) ∧ W.cell? ⟨w.heap.size, 2, none⟩ = some (.int .i64 s) ∧ W.cell? ⟨w.heap.size, 3, none⟩ = some (.int .i64 l) ∧ W.cell? ⟨w.heap.size, 4, none⟩ = some (.int .i64 a) ∧ W.cell? ⟨b1, off + AT * 8, none⟩ = some (.int .i64 rr.kd) ∧ W.cell? ⟨b1, off + AT * 8 + 1, none⟩ = some (.int .i64 rr.sq) ∧ W.cell? ⟨b1, off + AT * 8 + 2, none⟩ = some (.int .i64 rr.ep) ∧ W.cell? ⟨b1, off + AT * 8 + 3, none⟩ = some (.int .i64 rr.ps) ∧ W.cell? ⟨b1, off + AT * 8 + 4, none⟩ = some (.int .i64 rr.nm) ∧ W.cell? ⟨b1, off + AT * 8 + 5, none⟩ = some (.int .i64 rr.i.z) ∧ W.cell? ⟨b1, off + AT * 8 + 6, none⟩ = some (.int .i64 rr.i.wh) ∧ W.cell? ⟨b1, off + AT * 8 + 7, none⟩ = some (.slice rr.i.A rr.i.l.length rr.i.c)) ∧ Below w6.heap.size w6 W from fun W h => by
        obtain ⟨g0, g1, g2, g3, g4⟩ := G6.keep h (by omega)
        exact ⟨⟨g0, g1, g2, g3, g4, ks h hb1 e0, ks h hb1 e1, ks h hb1 e2, ks h hb1 e3, ks h hb1 e4, ks h hb1 e5, ks h hb1 e6, ks h hb1 e7⟩, h⟩)
      have hd0 := below_dr (Below.refl w6.heap.size w6)
      have hd1 := below_dr (bl w6 (.cells #[.int .i64 0, .slice none 0 0] 30))
      subst hA
      have HRR := Lib.hid (And.intro hrd (And.intro hr3 (And.intro hr4 (And.intro hr5 (And.intro hr6 hr7)))))
      have HRI := Lib.hid hri
      have HRO := Lib.hid hRO
      have HE0 := Lib.hid hE0
      have HE1 := Lib.hid hE1
      clear hr1 hr3 hr4 hr5 hr6 hr7 hE0 hE1 hrd hrr hrm hri hqq
      go_cut [20, 21] from 200 (fun p o wc => ∃ (gq : Nat) (ok : Bool) (e' : Int) (b : List UInt8) (A' : Option Addr) (c' : Nat), p = .pointer (some ⟨gq, 0, none⟩) ∧ o = .bool ok ∧ (ok = true → e' = 0 ∧ b = E0) ∧ (ok = false → ∀ ad, ¬ SayOk z d e' b ad) ∧ (wc.cell? ⟨gq, 0, none⟩ = some (.int .i64 e') ∧ wc.cell? ⟨gq, 1, none⟩ = some (.slice A' b.length c')) ∧ gq < wc.heap.size ∧ Gt.In wc wc.heap.size ⟨e', A', c', b⟩ ∧ Below w6.heap.size w6 wc)
      case first =>
        go_region_held3 (fun W => (W.cell? ⟨w.heap.size, 0, none⟩ = some (.int .i64 z) ∧ W.cell? ⟨w.heap.size, 1, none⟩ = some (.int .i64 d) ∧ W.cell? ⟨w.heap.size, 2, none⟩ = some (.int .i64 s) ∧ W.cell? ⟨w.heap.size, 3, none⟩ = some (.int .i64 l) ∧ W.cell? ⟨w.heap.size, 4, none⟩ = some (.int .i64 a) ∧ W.cell? ⟨b1, off + AT * 8, none⟩ = some (.int .i64 rr.kd) ∧ W.cell? ⟨b1, off + AT * 8 + 1, none⟩ = some (.int .i64 rr.sq) ∧ W.cell? ⟨b1, off + AT * 8 + 2, none⟩ = some (.int .i64 rr.ep) ∧ W.cell? ⟨b1, off + AT * 8 + 3, none⟩ = some (.int .i64 rr.ps) ∧ W.cell? ⟨b1, off + AT * 8 + 4, none⟩ = some (.int .i64 rr.nm) ∧ W.cell? ⟨b1, off + AT * 8 + 5, none⟩ = some (.int .i64 rr.i.z) ∧ W.cell? ⟨b1, off + AT * 8 + 6, none⟩ = some (.int .i64 rr.i.wh) ∧ W.cell? ⟨b1, off + AT * 8 + 7, none⟩ = some (.slice rr.i.A rr.i.l.length rr.i.c)) ∧ Below w6.heap.size w6 W)
          ((refine HF.out _ ?_; first
            | with_reducible exact hbB
            | with_reducible exact kal hbB _
            | with_reducible exact hbA
            | with_reducible exact kal hbA _
            | with_reducible exact hd0
            | with_reducible exact hd1
            | with_reducible exact kal hd0 _
            | with_reducible exact (hbB.setCell (p := ⟨_, 0, none⟩) hbA.size _).setCell (p := ⟨_, 1, none⟩) hbA.size _
            | with_reducible exact (hbB.setCell (p := ⟨_, 0, none⟩) (Nat.le_refl _) _).setCell (p := ⟨_, 1, none⟩) (Nat.le_refl _) _
            | fail))
          (first
            | (go_at_call 21; (with_reducible refine (HCE.out w6.drew hd0).mono ?_); rintro e wA ⟨⟨G, rfl, GE, GL, GN, GI⟩, hbq⟩; have hbA : Below w6.heap.size w6 wA := bt hd0 hbq; have HGT := Lib.hid (And.intro GE GL); have HGN := Lib.hid GN; clear GE GL GN hbq)
            | (go_at_call 21; (with_reducible refine (HCE.out (w6.alloc (.cells #[.int .i64 0, .slice none 0 0] 30)).drew hd1).mono ?_); rintro e wA ⟨⟨G, rfl, GE, GL, GN, GI⟩, hbq⟩; have hbA : Below w6.heap.size w6 wA := bt hd1 hbq; have PY : wA.heap[w6.heap.size]? = some (.cells #[.int .i64 0, .slice none 0 0] 30) := blk_far hbq (by simp) (heap_alloc_new w6 (.cells #[.int .i64 0, .slice none 0 0] 30)); have HGT := Lib.hid (And.intro GE GL); have HGN := Lib.hid GN; clear GE GL GN hbq)
            | (go_at_call 20; (with_reducible refine (HSP.out G wA GI HGT.out HGN.out).mono ?_); rintro e wB ⟨⟨ok, e', bb, h1, h2, A', c', rfl, h3⟩, hbq⟩; have hbB := bt hbA hbq; (try (replace PY := blk_far hbq (Array.getElem?_eq_some_iff.1 PY).1 PY; have y0 := cell_of_row _ _ 0 _ _ _ PY; have y1 := cell_of_row _ _ 1 _ _ _ PY; have f0 := frozen_of_row _ _ 0 _ _ PY; have f1 := frozen_of_row _ _ 1 _ _ PY; simp at y0 y1)); clear hbq)
            | (go_at_call 20; (with_reducible refine (HSP.out G (wA.alloc (.cells #[.int .i64 0, .slice none 0 0] 30)) (GI.next (bl wA _)) HGT.out HGN.out).mono ?_); rintro e wB ⟨⟨ok, e', bb, h1, h2, A', c', rfl, h3⟩, hbq⟩; have hbB := bt (kal hbA (.cells #[.int .i64 0, .slice none 0 0] 30)) hbq; have PY : wB.heap[wA.heap.size]? = some (.cells #[.int .i64 0, .slice none 0 0] 30) := blk_far hbq (by simp) (heap_alloc_new wA (.cells #[.int .i64 0, .slice none 0 0] 30)); have y0 := cell_of_row _ _ 0 _ _ _ PY; have y1 := cell_of_row _ _ 1 _ _ _ PY; have f0 := frozen_of_row _ _ 0 _ _ PY; have f1 := frozen_of_row _ _ 1 _ _ PY; simp at y0 y1; clear hbq)
            | fail)
        all_goals (go_wp2_with fail; go_meet)
        all_goals first
          | exact ⟨wB.heap.size, ok, e', bb, A', c', rfl, rfl, h1, h2, ⟨(gotB_new wB (.int .i64 e') (.slice A' bb.length c') 30).c0, (gotB_new wB (.int .i64 e') (.slice A' bb.length c') 30).c1⟩, by simp, h3.next (bl wB _), kal hbB _⟩
          | exact ⟨wA.heap.size, ok, e', bb, A', c', rfl, rfl, h1, h2, got_set PY _ _, by simpa using (Array.getElem?_eq_some_iff.1 PY).1, ⟨by simpa using sl_2 h3.h PY (.int .i64 e') (.slice A' bb.length c'), h3.l⟩, (hbB.setCell (p := ⟨_, 0, none⟩) hbA.size _).setCell (p := ⟨_, 1, none⟩) hbA.size _⟩
          | exact ⟨w6.heap.size, ok, e', bb, A', c', rfl, rfl, h1, h2, got_set PY _ _, by simpa using (Array.getElem?_eq_some_iff.1 PY).1, ⟨by simpa using sl_2 h3.h PY (.int .i64 e') (.slice A' bb.length c'), h3.l⟩, (hbB.setCell (p := ⟨_, 0, none⟩) (Nat.le_refl _) _).setCell (p := ⟨_, 1, none⟩) (Nat.le_refl _) _⟩
          | (trace_state; sorry)
      case rest =>
        obtain ⟨w7, rfl⟩ : ∃ y, y = wc := ⟨_, rfl⟩
        obtain ⟨gp, op, ep', bp, Ap, cp', rfl, rfl, qp1, qp2, ⟨p0, p1⟩, hgp, hIp, hb7⟩ := hcut
        have L7 : w6.heap.size ≤ w7.heap.size := hb7.size
        have HF2 := Lib.hid (show ∀ W, Below w7.heap.size w7 W → (W.cell? ⟨w.heap.size, 0, none⟩ = some (.int .i64 z) ∧ W.cell? ⟨w.heap.size, 1, none⟩ = some (.int .i64 d) ∧ W.cell? ⟨w.heap.size, 2, none⟩ = some (.int .i64 s) ∧ W.cell? ⟨w.heap.size, 3, none⟩ = some (.int .i64 l) ∧ W.cell? ⟨w.heap.size, 4, none⟩ = some (.int .i64 a) ∧ W.cell? ⟨b1, off + AT * 8, none⟩ = some (.int .i64 rr.kd) ∧ W.cell? ⟨b1, off + AT * 8 + 1, none⟩ = some (.int .i64 rr.sq) ∧ W.cell? ⟨b1, off + AT * 8 + 2, none⟩ = some (.int .i64 rr.ep) ∧ W.cell? ⟨b1, off + AT * 8 + 3, none⟩ = some (.int .i64 rr.ps) ∧ W.cell? ⟨b1, off + AT * 8 + 4, none⟩ = some (.int .i64 rr.nm) ∧ W.cell? ⟨b1, off + AT * 8 + 5, none⟩ = some (.int .i64 rr.i.z) ∧ W.cell? ⟨b1, off + AT * 8 + 6, none⟩ = some (.int .i64 rr.i.wh) ∧ W.cell? ⟨b1, off + AT * 8 + 7, none⟩ = some (.slice rr.i.A rr.i.l.length rr.i.c)) ∧ Below w7.heap.size w7 W from fun W h => ⟨(HF.out W (hb7.trans (h.mono L7))).1, h⟩)
        have HCF := Lib.hid (show ∀ W, Below w7.heap.size w7 W → _ from fun W h => HCE1.out W (hb7.trans (h.mono L7)))
        have HSQ2 := HSP1
        clear hd0 hd1 HCE HSP HCE1 HSP1
        have hd2 := below_dr (Below.refl w7.heap.size w7)
        have hd3 := below_dr (bl w7 (.cells #[.int .i64 0, .slice none 0 0] 30))
        go_upto_region 13 with fail
        go_cut [22, 23] from 200 (fun p o wc => ∃ (gq : Nat) (ok : Bool) (e' : Int) (b : List UInt8) (A' : Option Addr) (c' : Nat), p = .pointer (some ⟨gq, 0, none⟩) ∧ o = .bool ok ∧ (ok = true → e' = 0 ∧ b = E1) ∧ (ok = false → ∀ ad, ¬ SayOk z d e' b ad) ∧ (wc.cell? ⟨gq, 0, none⟩ = some (.int .i64 e') ∧ wc.cell? ⟨gq, 1, none⟩ = some (.slice A' b.length c')) ∧ gq < wc.heap.size ∧ Gt.In wc wc.heap.size ⟨e', A', c', b⟩ ∧ Below w7.heap.size w7 wc)
        case first =>
          go_region_held3 (fun W => (W.cell? ⟨w.heap.size, 0, none⟩ = some (.int .i64 z) ∧ W.cell? ⟨w.heap.size, 1, none⟩ = some (.int .i64 d) ∧ W.cell? ⟨w.heap.size, 2, none⟩ = some (.int .i64 s) ∧ W.cell? ⟨w.heap.size, 3, none⟩ = some (.int .i64 l) ∧ W.cell? ⟨w.heap.size, 4, none⟩ = some (.int .i64 a) ∧ W.cell? ⟨b1, off + AT * 8, none⟩ = some (.int .i64 rr.kd) ∧ W.cell? ⟨b1, off + AT * 8 + 1, none⟩ = some (.int .i64 rr.sq) ∧ W.cell? ⟨b1, off + AT * 8 + 2, none⟩ = some (.int .i64 rr.ep) ∧ W.cell? ⟨b1, off + AT * 8 + 3, none⟩ = some (.int .i64 rr.ps) ∧ W.cell? ⟨b1, off + AT * 8 + 4, none⟩ = some (.int .i64 rr.nm) ∧ W.cell? ⟨b1, off + AT * 8 + 5, none⟩ = some (.int .i64 rr.i.z) ∧ W.cell? ⟨b1, off + AT * 8 + 6, none⟩ = some (.int .i64 rr.i.wh) ∧ W.cell? ⟨b1, off + AT * 8 + 7, none⟩ = some (.slice rr.i.A rr.i.l.length rr.i.c)) ∧ Below w7.heap.size w7 W)
            ((refine HF2.out _ ?_; first
              | with_reducible exact hbB
              | with_reducible exact kal hbB _
              | with_reducible exact hbA
              | with_reducible exact kal hbA _
              | with_reducible exact hd2
              | with_reducible exact hd3
              | with_reducible exact kal hd2 _
              | with_reducible exact (hbB.setCell (p := ⟨_, 0, none⟩) hbA.size _).setCell (p := ⟨_, 1, none⟩) hbA.size _
              | with_reducible exact (hbB.setCell (p := ⟨_, 0, none⟩) (Nat.le_refl _) _).setCell (p := ⟨_, 1, none⟩) (Nat.le_refl _) _
              | fail))
            (first
              | (go_at_call 21; (with_reducible refine (HCF.out w7.drew hd2).mono ?_); rintro e wA ⟨⟨G, rfl, GE, GL, GN, GI⟩, hbq⟩; have hbA : Below w7.heap.size w7 wA := bt hd2 hbq; have HGT := Lib.hid (And.intro GE GL); have HGN := Lib.hid GN; clear GE GL GN hbq)
              | (go_at_call 21; (with_reducible refine (HCF.out (w7.alloc (.cells #[.int .i64 0, .slice none 0 0] 30)).drew hd3).mono ?_); rintro e wA ⟨⟨G, rfl, GE, GL, GN, GI⟩, hbq⟩; have hbA : Below w7.heap.size w7 wA := bt hd3 hbq; have PY : wA.heap[w7.heap.size]? = some (.cells #[.int .i64 0, .slice none 0 0] 30) := blk_far hbq (by simp) (heap_alloc_new w7 (.cells #[.int .i64 0, .slice none 0 0] 30)); have HGT := Lib.hid (And.intro GE GL); have HGN := Lib.hid GN; clear GE GL GN hbq)
              | (go_at_call 20; (with_reducible refine (HSQ2.out G wA GI HGT.out HGN.out).mono ?_); rintro e wB ⟨⟨ok, e', bb, h1, h2, A', c', rfl, h3⟩, hbq⟩; have hbB := bt hbA hbq; (try (replace PY := blk_far hbq (Array.getElem?_eq_some_iff.1 PY).1 PY; have y0 := cell_of_row _ _ 0 _ _ _ PY; have y1 := cell_of_row _ _ 1 _ _ _ PY; have f0 := frozen_of_row _ _ 0 _ _ PY; have f1 := frozen_of_row _ _ 1 _ _ PY; simp at y0 y1)); clear hbq)
              | (go_at_call 20; (with_reducible refine (HSQ2.out G (wA.alloc (.cells #[.int .i64 0, .slice none 0 0] 30)) (GI.next (bl wA _)) HGT.out HGN.out).mono ?_); rintro e wB ⟨⟨ok, e', bb, h1, h2, A', c', rfl, h3⟩, hbq⟩; have hbB := bt (kal hbA (.cells #[.int .i64 0, .slice none 0 0] 30)) hbq; have PY : wB.heap[wA.heap.size]? = some (.cells #[.int .i64 0, .slice none 0 0] 30) := blk_far hbq (by simp) (heap_alloc_new wA (.cells #[.int .i64 0, .slice none 0 0] 30)); have y0 := cell_of_row _ _ 0 _ _ _ PY; have y1 := cell_of_row _ _ 1 _ _ _ PY; have f0 := frozen_of_row _ _ 0 _ _ PY; have f1 := frozen_of_row _ _ 1 _ _ PY; simp at y0 y1; clear hbq)
              | fail)
          all_goals (go_wp2_with fail; go_meet)
          all_goals first
            | exact ⟨wB.heap.size, ok, e', bb, A', c', rfl, rfl, h1, h2, ⟨(gotB_new wB (.int .i64 e') (.slice A' bb.length c') 30).c0, (gotB_new wB (.int .i64 e') (.slice A' bb.length c') 30).c1⟩, by simp, h3.next (bl wB _), kal hbB _⟩
            | exact ⟨wA.heap.size, ok, e', bb, A', c', rfl, rfl, h1, h2, got_set PY _ _, by simpa using (Array.getElem?_eq_some_iff.1 PY).1, ⟨by simpa using sl_2 h3.h PY (.int .i64 e') (.slice A' bb.length c'), h3.l⟩, (hbB.setCell (p := ⟨_, 0, none⟩) hbA.size _).setCell (p := ⟨_, 1, none⟩) hbA.size _⟩
            | exact ⟨w7.heap.size, ok, e', bb, A', c', rfl, rfl, h1, h2, got_set PY _ _, by simpa using (Array.getElem?_eq_some_iff.1 PY).1, ⟨by simpa using sl_2 h3.h PY (.int .i64 e') (.slice A' bb.length c'), h3.l⟩, (hbB.setCell (p := ⟨_, 0, none⟩) (Nat.le_refl _) _).setCell (p := ⟨_, 1, none⟩) (Nat.le_refl _) _⟩
            | (trace_state; sorry)
        case rest =>
          obtain ⟨w8, rfl⟩ : ∃ y, y = wc := ⟨_, rfl⟩
          obtain ⟨gq, oq, eq', bq, Aq, cq', rfl, rfl, qq1, qq2, ⟨r0, r1⟩, hgq, hIq, hb8⟩ := hcut
          clear hd2 hd3
          go_upto_region 15 with fail
          go_upto_if 137 with fail
          generalize ((AT : Int) == 0) = qz
          go_cut [24] from 200 (fun v wc => ∃ of : Int, v = .int .i64 of ∧ (of = 0 ∨ of = (k : Int) + 1) ∧ wc = w8)
          case first =>
            cases qz
            · go_wp2_with fail
              go_meet
              exact ⟨(N1 : Int), rfl, .inr (by rw [HN2.out]; rfl), rfl⟩
            · go_wp2_with fail
              go_meet
              exact ⟨0, rfl, .inl rfl, rfl⟩
          case rest =>
            obtain ⟨of, rfl, hof, hwc⟩ := hcut
            subst hwc
            have hB8 : Below wq.heap.size wq wc := bt (bt (bt hbr hbq) hb7) hb8
            have bA : Below w.heap.size w wc := bt hw0.out hB8
            obtain ⟨hz4, hd4, -⟩ := HO.out
            have M0 := say_made HRO.out (by omega) hd4 (cell_lt HO.out hS0)
            have M1 := say_made HRO.out (by omega) hd4 (cell_lt HO.out hS1)
            rw [← HE0.out] at M0
            rw [← HE1.out] at M1
            have hone : OneR rr.d x.ep x.last SQ AT of l := by
              obtain ⟨e1, e2, e3, e4, e5, e6⟩ := HRR.out
              rw [e1]
              exact txn_one e2 e3 e4 e5 (n := k) (by rw [e6, ids_length, HVN.out]) HLN.out hof (by have := HN1.out; omega)
            have hc1 : op = true ↔ SayOk z d ep' bp (lrc.cellN l a 0 SL) := by
              cases op
              · exact iff_of_false Bool.false_ne_true (qp2 rfl _)
              · obtain ⟨e1, e2⟩ := qp1 rfl
                rw [e1, e2]
                exact iff_of_true rfl M0.1
            have hc2 : oq = true ↔ SayOk z d eq' bq (lrc.cellN l a 1 SL) := by
              cases oq
              · exact iff_of_false Bool.false_ne_true (qq2 rfl _)
              · obtain ⟨e1, e2⟩ := qq1 rfl
                rw [e1, e2]
                exact iff_of_true rfl M1.1
            have hs1 : op = true → sayR bp = rr.d := fun h => by rw [(qp1 h).2]; exact M0.2
            have hs2 : oq = true → sayR bq = rr.d := fun h => by rw [(qq1 h).2]; exact M1.2
            have HLK := Lib.hid (HC.out.look op oq op oq z d s l a x ⟨ep', Ap, cp', bp⟩ ⟨eq', Aq, cq', bq⟩ bp.length bq.length SL SQ AT of l wc bA HO.out (HX.out.next bA) HLAB.out HGD.out ⟨hS0.2.1, hS0.2.2⟩ (hIp.next hb8) rfl hIq rfl hc1 hc2 ⟨fun h => ⟨h, by rw [hs1 h]; exact hone⟩, fun h => h.1⟩ ⟨fun h => ⟨h, by rw [hs2 h]; exact hone⟩, fun h => h.1⟩)
            obtain ⟨P, hP⟩ : ∃ P, P = lookR op oq (sayR bp) (sayR bq) := ⟨_, rfl⟩
            obtain ⟨ws, hws⟩ : ∃ ws, ws = lookW op oq := ⟨_, rfl⟩
            obtain ⟨how, hhow⟩ : ∃ how, how = lookH op oq op oq := ⟨_, rfl⟩
            rw [← hP, ← hws, ← hhow] at HLK
            have HP := Lib.hid (show (op = true ∨ oq = true) → P = rr.d from fun h => by
              rw [hP]
              cases op
              · cases oq
                · rcases h with h | h <;> exact absurd h Bool.false_ne_true
                · exact hs2 rfl
              · exact hs1 rfl)
            have HWS := Lib.hid (And.intro hws hhow)
            have HPL := Lib.hid (show rr.i.l.length ≤ 1048576 by have := recOk_len HRO.out hd4; exact Nat.le_trans this (by decide))
            clear hc1 hc2 hs1 hs2 hone M0 M1 hP hws hhow
            have p0 := ks hb8 hgp p0
            have p1 := ks hb8 hgp p1
            have RIN : ∀ W, Below wc.heap.size wc W → BIn W W.heap.size rr.i := fun W h => ((HRI.out.next hb7).next hb8).next h
            have HRI2 := Lib.hid RIN
            have HF3 := Lib.hid (show ∀ W, Below wc.heap.size wc W → W.cell? ⟨b1, off + AT * 8, none⟩ = some (.int .i64 rr.kd) ∧ W.cell? ⟨b1, off + AT * 8 + 1, none⟩ = some (.int .i64 rr.sq) ∧ W.cell? ⟨b1, off + AT * 8 + 2, none⟩ = some (.int .i64 rr.ep) ∧ W.cell? ⟨b1, off + AT * 8 + 3, none⟩ = some (.int .i64 rr.ps) ∧ W.cell? ⟨b1, off + AT * 8 + 4, none⟩ = some (.int .i64 rr.nm) ∧ W.cell? ⟨b1, off + AT * 8 + 5, none⟩ = some (.int .i64 rr.i.z) ∧ W.cell? ⟨b1, off + AT * 8 + 6, none⟩ = some (.int .i64 rr.i.wh) ∧ W.cell? ⟨b1, off + AT * 8 + 7, none⟩ = some (.slice rr.i.A rr.i.l.length rr.i.c) from fun W h => (HF2.out W (hb8.trans (h.mono hb8.size))).1.2.2.2.2.2)
            obtain ⟨⟨g0, g1, g2, g3, g4⟩, FF8⟩ := HMG.out wc hB8
            obtain ⟨c0, c1, c2, c3, c4, c5, c6⟩ := id FF8
            clear RIN HF HF2 HCF HSQ2 FF8 G6 HRO HE0 HE1 HRR qp1 qp2 qq1 qq2 hof
            go_upto_region 18 with (go_at_call 8; (with_reducible refine HLK.out.mono ?_); rintro e w9 ⟨⟨Y, yc, V, vc, rfl, hY, hV⟩, hb9⟩)
            have hxP := bl w9 (.cells #[.int .i64 P.kd, .int .i64 P.sq, .int .i64 P.ep, .int .i64 P.ps, .int .i64 P.nm, .int .i64 P.z, .int .i64 P.wh, .slice Y P.l.length yc] 34)
            have RB := lrc.c8_new w9 (.int .i64 P.kd) (.int .i64 P.sq) (.int .i64 P.ep) (.int .i64 P.ps) (.int .i64 P.nm) (.int .i64 P.z) (.int .i64 P.wh) (.slice Y P.l.length yc) 34
            have hB9 := kal hb9 (.cells #[.int .i64 P.kd, .int .i64 P.sq, .int .i64 P.ep, .int .i64 P.ps, .int .i64 P.nm, .int .i64 P.z, .int .i64 P.wh, .slice Y P.l.length yc] 34)
            have bA9 := bt bA hB9
            have hlt9 : w9.heap.size < (w9.alloc (.cells #[.int .i64 P.kd, .int .i64 P.sq, .int .i64 P.ep, .int .i64 P.ps, .int .i64 P.nm, .int .i64 P.z, .int .i64 P.wh, .slice Y P.l.length yc] 34)).heap.size := by simp
            have hY9 := hY.next hxP
            have HV9 := Lib.hid (hV.below hxP)
            clear hxP hY hV g0 g1 g2 g3 g4 c0 c1 c2 c3 c4 c5 c6 p0 p1 r0 r1
            generalize w9.heap.size = g9 at *
            generalize w9.alloc (.cells #[.int .i64 P.kd, .int .i64 P.sq, .int .i64 P.ep, .int .i64 P.ps, .int .i64 P.nm, .int .i64 P.z, .int .i64 P.wh, .slice Y P.l.length yc] 34) = w10 at *
            obtain ⟨hws, hhow⟩ := HWS.out
            clear HWS
            cases op <;> cases oq
            · obtain rfl : ws = [] := hws
              obtain rfl : how = 3 := hhow
              go_wp2_with (first
                | (go_at_call 13; (with_reducible refine (HK.out _ bA9).mono ?_); rintro e wz ⟨rfl, hbz⟩)
                | fail)
              go_ret
              exact ⟨rfl, bt bA9 hbz⟩
            · obtain rfl : ws = [0] := hws
              obtain rfl : how = 1 := hhow
              have hPd : P = rr.d := HP.out (.inr rfl)
              go_upto_region 27 with (first | (at_builtin; refine wpList_appV _ rfl (.tmp 174) (.tmp 175) _ _ rfl w10.heap.size 3 tvI (.slice none 0 0) [] rfl (ownV_nil _ _ _) _ [.int .i64 0] rfl ?_ ?_ ?_ ?_ ?_; (focus (exact (SlV.of_block (vs := [.int .i64 0]) (heap_alloc_new _ _) rfl (Nat.lt_succ_self _)).src (ints_one [0]) Tryz.underlying41 1)); (focus (unfold maxLen; simp)); (focus (simp)); (focus (simp)); intro v8 wE o8 hg8 hd8; obtain ⟨A8, c8, rfl, hs8⟩ := own_oneG o8) | fail)
              have hE := ((Below.refl w10.heap.size w10).alloc (Nat.le_refl _) (.cells #[.int .i64 0] 3)).grown hg8 (by simp) (fun q hq => absurd hq (by simp [Value.ownBlock]))
              clear hg8 hd8 o8
              have hBE := bt hB9 hE
              have bAE := bt bA9 hE
              have HFE := Lib.hid (show ∀ W, Below wE.heap.size wE W → ((W.cell? ⟨g9, 0, none⟩ = some (.int .i64 P.kd) ∧ W.cell? ⟨g9, 1, none⟩ = some (.int .i64 P.sq) ∧ W.cell? ⟨g9, 2, none⟩ = some (.int .i64 P.ep) ∧ W.cell? ⟨g9, 3, none⟩ = some (.int .i64 P.ps) ∧ W.cell? ⟨g9, 4, none⟩ = some (.int .i64 P.nm) ∧ W.cell? ⟨g9, 5, none⟩ = some (.int .i64 P.z) ∧ W.cell? ⟨g9, 6, none⟩ = some (.int .i64 P.wh) ∧ W.cell? ⟨g9, 7, none⟩ = some (.slice Y P.l.length yc)) ∧ (W.cell? ⟨b1, off + AT * 8, none⟩ = some (.int .i64 rr.kd) ∧ W.cell? ⟨b1, off + AT * 8 + 1, none⟩ = some (.int .i64 rr.sq) ∧ W.cell? ⟨b1, off + AT * 8 + 2, none⟩ = some (.int .i64 rr.ep) ∧ W.cell? ⟨b1, off + AT * 8 + 3, none⟩ = some (.int .i64 rr.ps) ∧ W.cell? ⟨b1, off + AT * 8 + 4, none⟩ = some (.int .i64 rr.nm) ∧ W.cell? ⟨b1, off + AT * 8 + 5, none⟩ = some (.int .i64 rr.i.z) ∧ W.cell? ⟨b1, off + AT * 8 + 6, none⟩ = some (.int .i64 rr.i.wh) ∧ W.cell? ⟨b1, off + AT * 8 + 7, none⟩ = some (.slice rr.i.A rr.i.l.length rr.i.c))) ∧ Below wE.heap.size wE W from fun W h => by
                obtain ⟨t0, t1, t2, t3, t4, t5, t6, t7⟩ := RB.keep (hE.trans (h.mono hE.size)) hlt9
                exact ⟨⟨⟨t0, t1, t2, t3, t4, t5, t6, t7⟩, HF3.out W (hBE.trans (h.mono hBE.size))⟩, h⟩)
              have HKR := Lib.hid (show ∀ W, Below wE.heap.size wE W → Calls Tryz.prog 12 #[.agg #[.int .i64 P.kd, .int .i64 P.sq, .int .i64 P.ep, .int .i64 P.ps, .int .i64 P.nm, .int .i64 P.z, .int .i64 P.wh, .slice Y P.l.length yc], .agg #[.int .i64 rr.kd, .int .i64 rr.sq, .int .i64 rr.ep, .int .i64 rr.ps, .int .i64 rr.nm, .int .i64 rr.i.z, .int .i64 rr.i.wh, .slice rr.i.A rr.i.l.length rr.i.c]] W fun e w' => e = .returned (.bool true) ∧ Below W.heap.size W w' from fun W h => lrc.krec_d true ⟨P.kd, P.sq, P.ep, P.ps, P.nm, ⟨P.z, P.wh, Y, yc, P.l⟩⟩ rr _ _ W (hY9.next (hE.trans (h.mono hE.size))) (HRI2.out W (hBE.trans (h.mono hBE.size))) rfl rfl (by show P.l.length ≤ 1048576; rw [hPd]; exact HPL.out) (iff_of_true rfl (show P = rr.d from hPd)))
              have HIN := Lib.hid (show ∀ W, Below wE.heap.size wE W → Calls Tryz.prog 17 #[.slice V 1 vc, .slice A8 1 c8] W fun e w' => e = .returned (.bool true) ∧ Below W.heap.size W w' from fun W h => by
                obtain ⟨A', c', he, -, -, hsl, -⟩ := (HV9.out.below (hE.trans (h.mono hE.size))).form
                simp only [Value.slice.injEq] at he
                obtain ⟨rfl, -, rfl⟩ := he
                have h9 := ints_any V A8 vc c8 W.heap.size W.heap.size _ _ [0] [0] W rfl rfl hsl (hs8.next h) (Nat.le_refl _) (Nat.le_refl _) (by decide)
                rw [decide_eq_true (rfl : ([0] : List Int) = [0])] at h9
                exact h9)
              have hd5 := below_dr (Below.refl wE.heap.size wE)
              clear RB hlt9 hY9 HV9 HF3 HRI2 hPd HP
              go_region_held3 (fun W => ((W.cell? ⟨g9, 0, none⟩ = some (.int .i64 P.kd) ∧ W.cell? ⟨g9, 1, none⟩ = some (.int .i64 P.sq) ∧ W.cell? ⟨g9, 2, none⟩ = some (.int .i64 P.ep) ∧ W.cell? ⟨g9, 3, none⟩ = some (.int .i64 P.ps) ∧ W.cell? ⟨g9, 4, none⟩ = some (.int .i64 P.nm) ∧ W.cell? ⟨g9, 5, none⟩ = some (.int .i64 P.z) ∧ W.cell? ⟨g9, 6, none⟩ = some (.int .i64 P.wh) ∧ W.cell? ⟨g9, 7, none⟩ = some (.slice Y P.l.length yc)) ∧ (W.cell? ⟨b1, off + AT * 8, none⟩ = some (.int .i64 rr.kd) ∧ W.cell? ⟨b1, off + AT * 8 + 1, none⟩ = some (.int .i64 rr.sq) ∧ W.cell? ⟨b1, off + AT * 8 + 2, none⟩ = some (.int .i64 rr.ep) ∧ W.cell? ⟨b1, off + AT * 8 + 3, none⟩ = some (.int .i64 rr.ps) ∧ W.cell? ⟨b1, off + AT * 8 + 4, none⟩ = some (.int .i64 rr.nm) ∧ W.cell? ⟨b1, off + AT * 8 + 5, none⟩ = some (.int .i64 rr.i.z) ∧ W.cell? ⟨b1, off + AT * 8 + 6, none⟩ = some (.int .i64 rr.i.wh) ∧ W.cell? ⟨b1, off + AT * 8 + 7, none⟩ = some (.slice rr.i.A rr.i.l.length rr.i.c))) ∧ Below wE.heap.size wE W)
                ((refine HFE.out _ ?_; first
                  | with_reducible exact hbZ
                  | with_reducible exact hbB
                  | with_reducible exact hbA
                  | with_reducible exact hd5
                  | fail))
                (first
                  | (go_at_call 12; (with_reducible refine (HKR.out wE.drew hd5).mono ?_); rintro e wA ⟨rfl, hbq⟩; have hbA : Below wE.heap.size wE wA := bt hd5 hbq; clear hbq)
                  | (go_at_call 17; (with_reducible refine (HIN.out wA hbA).mono ?_); rintro e wB ⟨rfl, hbq⟩; have hbB : Below wE.heap.size wE wB := bt hbA hbq; clear hbq)
                  | (go_at_call 13; (with_reducible refine (HK.out wB (bt bAE hbB)).mono ?_); rintro e wZ ⟨rfl, hbq⟩; have hbZ : Below wE.heap.size wE wZ := bt hbB hbq; clear hbq)
                  | fail)
              go_wp2_with fail
              go_ret
              exact ⟨rfl, bt bAE hbZ⟩
            · obtain rfl : ws = [1] := hws
              obtain rfl : how = 1 := hhow
              have hPd : P = rr.d := HP.out (.inl rfl)
              go_upto_region 27 with (first | (at_builtin; refine wpList_appV _ rfl (.tmp 179) (.tmp 180) _ _ rfl w10.heap.size 3 tvI (.slice none 0 0) [] rfl (ownV_nil _ _ _) _ [.int .i64 1] rfl ?_ ?_ ?_ ?_ ?_; (focus (exact (SlV.of_block (vs := [.int .i64 1]) (heap_alloc_new _ _) rfl (Nat.lt_succ_self _)).src (ints_one [1]) Tryz.underlying41 1)); (focus (unfold maxLen; simp)); (focus (simp)); (focus (simp)); intro v8 wE o8 hg8 hd8; obtain ⟨A8, c8, rfl, hs8⟩ := own_oneG o8) | fail)
              have hE := ((Below.refl w10.heap.size w10).alloc (Nat.le_refl _) (.cells #[.int .i64 1] 3)).grown hg8 (by simp) (fun q hq => absurd hq (by simp [Value.ownBlock]))
              clear hg8 hd8 o8
              have hBE := bt hB9 hE
              have bAE := bt bA9 hE
              have HFE := Lib.hid (show ∀ W, Below wE.heap.size wE W → ((W.cell? ⟨g9, 0, none⟩ = some (.int .i64 P.kd) ∧ W.cell? ⟨g9, 1, none⟩ = some (.int .i64 P.sq) ∧ W.cell? ⟨g9, 2, none⟩ = some (.int .i64 P.ep) ∧ W.cell? ⟨g9, 3, none⟩ = some (.int .i64 P.ps) ∧ W.cell? ⟨g9, 4, none⟩ = some (.int .i64 P.nm) ∧ W.cell? ⟨g9, 5, none⟩ = some (.int .i64 P.z) ∧ W.cell? ⟨g9, 6, none⟩ = some (.int .i64 P.wh) ∧ W.cell? ⟨g9, 7, none⟩ = some (.slice Y P.l.length yc)) ∧ (W.cell? ⟨b1, off + AT * 8, none⟩ = some (.int .i64 rr.kd) ∧ W.cell? ⟨b1, off + AT * 8 + 1, none⟩ = some (.int .i64 rr.sq) ∧ W.cell? ⟨b1, off + AT * 8 + 2, none⟩ = some (.int .i64 rr.ep) ∧ W.cell? ⟨b1, off + AT * 8 + 3, none⟩ = some (.int .i64 rr.ps) ∧ W.cell? ⟨b1, off + AT * 8 + 4, none⟩ = some (.int .i64 rr.nm) ∧ W.cell? ⟨b1, off + AT * 8 + 5, none⟩ = some (.int .i64 rr.i.z) ∧ W.cell? ⟨b1, off + AT * 8 + 6, none⟩ = some (.int .i64 rr.i.wh) ∧ W.cell? ⟨b1, off + AT * 8 + 7, none⟩ = some (.slice rr.i.A rr.i.l.length rr.i.c))) ∧ Below wE.heap.size wE W from fun W h => by
                obtain ⟨t0, t1, t2, t3, t4, t5, t6, t7⟩ := RB.keep (hE.trans (h.mono hE.size)) hlt9
                exact ⟨⟨⟨t0, t1, t2, t3, t4, t5, t6, t7⟩, HF3.out W (hBE.trans (h.mono hBE.size))⟩, h⟩)
              have HKR := Lib.hid (show ∀ W, Below wE.heap.size wE W → Calls Tryz.prog 12 #[.agg #[.int .i64 P.kd, .int .i64 P.sq, .int .i64 P.ep, .int .i64 P.ps, .int .i64 P.nm, .int .i64 P.z, .int .i64 P.wh, .slice Y P.l.length yc], .agg #[.int .i64 rr.kd, .int .i64 rr.sq, .int .i64 rr.ep, .int .i64 rr.ps, .int .i64 rr.nm, .int .i64 rr.i.z, .int .i64 rr.i.wh, .slice rr.i.A rr.i.l.length rr.i.c]] W fun e w' => e = .returned (.bool true) ∧ Below W.heap.size W w' from fun W h => lrc.krec_d true ⟨P.kd, P.sq, P.ep, P.ps, P.nm, ⟨P.z, P.wh, Y, yc, P.l⟩⟩ rr _ _ W (hY9.next (hE.trans (h.mono hE.size))) (HRI2.out W (hBE.trans (h.mono hBE.size))) rfl rfl (by show P.l.length ≤ 1048576; rw [hPd]; exact HPL.out) (iff_of_true rfl (show P = rr.d from hPd)))
              have HIN := Lib.hid (show ∀ W, Below wE.heap.size wE W → Calls Tryz.prog 17 #[.slice V 1 vc, .slice A8 1 c8] W fun e w' => e = .returned (.bool true) ∧ Below W.heap.size W w' from fun W h => by
                obtain ⟨A', c', he, -, -, hsl, -⟩ := (HV9.out.below (hE.trans (h.mono hE.size))).form
                simp only [Value.slice.injEq] at he
                obtain ⟨rfl, -, rfl⟩ := he
                have h9 := ints_any V A8 vc c8 W.heap.size W.heap.size _ _ [1] [1] W rfl rfl hsl (hs8.next h) (Nat.le_refl _) (Nat.le_refl _) (by decide)
                rw [decide_eq_true (rfl : ([1] : List Int) = [1])] at h9
                exact h9)
              have hd5 := below_dr (Below.refl wE.heap.size wE)
              clear RB hlt9 hY9 HV9 HF3 HRI2 hPd HP
              go_region_held3 (fun W => ((W.cell? ⟨g9, 0, none⟩ = some (.int .i64 P.kd) ∧ W.cell? ⟨g9, 1, none⟩ = some (.int .i64 P.sq) ∧ W.cell? ⟨g9, 2, none⟩ = some (.int .i64 P.ep) ∧ W.cell? ⟨g9, 3, none⟩ = some (.int .i64 P.ps) ∧ W.cell? ⟨g9, 4, none⟩ = some (.int .i64 P.nm) ∧ W.cell? ⟨g9, 5, none⟩ = some (.int .i64 P.z) ∧ W.cell? ⟨g9, 6, none⟩ = some (.int .i64 P.wh) ∧ W.cell? ⟨g9, 7, none⟩ = some (.slice Y P.l.length yc)) ∧ (W.cell? ⟨b1, off + AT * 8, none⟩ = some (.int .i64 rr.kd) ∧ W.cell? ⟨b1, off + AT * 8 + 1, none⟩ = some (.int .i64 rr.sq) ∧ W.cell? ⟨b1, off + AT * 8 + 2, none⟩ = some (.int .i64 rr.ep) ∧ W.cell? ⟨b1, off + AT * 8 + 3, none⟩ = some (.int .i64 rr.ps) ∧ W.cell? ⟨b1, off + AT * 8 + 4, none⟩ = some (.int .i64 rr.nm) ∧ W.cell? ⟨b1, off + AT * 8 + 5, none⟩ = some (.int .i64 rr.i.z) ∧ W.cell? ⟨b1, off + AT * 8 + 6, none⟩ = some (.int .i64 rr.i.wh) ∧ W.cell? ⟨b1, off + AT * 8 + 7, none⟩ = some (.slice rr.i.A rr.i.l.length rr.i.c))) ∧ Below wE.heap.size wE W)
                ((refine HFE.out _ ?_; first
                  | with_reducible exact hbZ
                  | with_reducible exact hbB
                  | with_reducible exact hbA
                  | with_reducible exact hd5
                  | fail))
                (first
                  | (go_at_call 12; (with_reducible refine (HKR.out wE.drew hd5).mono ?_); rintro e wA ⟨rfl, hbq⟩; have hbA : Below wE.heap.size wE wA := bt hd5 hbq; clear hbq)
                  | (go_at_call 17; (with_reducible refine (HIN.out wA hbA).mono ?_); rintro e wB ⟨rfl, hbq⟩; have hbB : Below wE.heap.size wE wB := bt hbA hbq; clear hbq)
                  | (go_at_call 13; (with_reducible refine (HK.out wB (bt bAE hbB)).mono ?_); rintro e wZ ⟨rfl, hbq⟩; have hbZ : Below wE.heap.size wE wZ := bt hbB hbq; clear hbq)
                  | fail)
              go_wp2_with fail
              go_ret
              exact ⟨rfl, bt bAE hbZ⟩
            · obtain rfl : ws = [] := hws
              obtain rfl : how = 1 := hhow
              have hPd : P = rr.d := HP.out (.inl rfl)
              go_upto_region 27 with fail
              have hE : Below w10.heap.size w10 w10 := Below.refl _ _
              have hBE := bt hB9 hE
              have bAE := bt bA9 hE
              have HFE := Lib.hid (show ∀ W, Below w10.heap.size w10 W → ((W.cell? ⟨g9, 0, none⟩ = some (.int .i64 P.kd) ∧ W.cell? ⟨g9, 1, none⟩ = some (.int .i64 P.sq) ∧ W.cell? ⟨g9, 2, none⟩ = some (.int .i64 P.ep) ∧ W.cell? ⟨g9, 3, none⟩ = some (.int .i64 P.ps) ∧ W.cell? ⟨g9, 4, none⟩ = some (.int .i64 P.nm) ∧ W.cell? ⟨g9, 5, none⟩ = some (.int .i64 P.z) ∧ W.cell? ⟨g9, 6, none⟩ = some (.int .i64 P.wh) ∧ W.cell? ⟨g9, 7, none⟩ = some (.slice Y P.l.length yc)) ∧ (W.cell? ⟨b1, off + AT * 8, none⟩ = some (.int .i64 rr.kd) ∧ W.cell? ⟨b1, off + AT * 8 + 1, none⟩ = some (.int .i64 rr.sq) ∧ W.cell? ⟨b1, off + AT * 8 + 2, none⟩ = some (.int .i64 rr.ep) ∧ W.cell? ⟨b1, off + AT * 8 + 3, none⟩ = some (.int .i64 rr.ps) ∧ W.cell? ⟨b1, off + AT * 8 + 4, none⟩ = some (.int .i64 rr.nm) ∧ W.cell? ⟨b1, off + AT * 8 + 5, none⟩ = some (.int .i64 rr.i.z) ∧ W.cell? ⟨b1, off + AT * 8 + 6, none⟩ = some (.int .i64 rr.i.wh) ∧ W.cell? ⟨b1, off + AT * 8 + 7, none⟩ = some (.slice rr.i.A rr.i.l.length rr.i.c))) ∧ Below w10.heap.size w10 W from fun W h => by
                obtain ⟨t0, t1, t2, t3, t4, t5, t6, t7⟩ := RB.keep (hE.trans (h.mono hE.size)) hlt9
                exact ⟨⟨⟨t0, t1, t2, t3, t4, t5, t6, t7⟩, HF3.out W (hBE.trans (h.mono hBE.size))⟩, h⟩)
              have HKR := Lib.hid (show ∀ W, Below w10.heap.size w10 W → Calls Tryz.prog 12 #[.agg #[.int .i64 P.kd, .int .i64 P.sq, .int .i64 P.ep, .int .i64 P.ps, .int .i64 P.nm, .int .i64 P.z, .int .i64 P.wh, .slice Y P.l.length yc], .agg #[.int .i64 rr.kd, .int .i64 rr.sq, .int .i64 rr.ep, .int .i64 rr.ps, .int .i64 rr.nm, .int .i64 rr.i.z, .int .i64 rr.i.wh, .slice rr.i.A rr.i.l.length rr.i.c]] W fun e w' => e = .returned (.bool true) ∧ Below W.heap.size W w' from fun W h => lrc.krec_d true ⟨P.kd, P.sq, P.ep, P.ps, P.nm, ⟨P.z, P.wh, Y, yc, P.l⟩⟩ rr _ _ W (hY9.next (hE.trans (h.mono hE.size))) (HRI2.out W (hBE.trans (h.mono hBE.size))) rfl rfl (by show P.l.length ≤ 1048576; rw [hPd]; exact HPL.out) (iff_of_true rfl (show P = rr.d from hPd)))
              have HIN := Lib.hid (show ∀ W, Below w10.heap.size w10 W → Calls Tryz.prog 17 #[.slice V 0 vc, .slice none 0 0] W fun e w' => e = .returned (.bool true) ∧ Below W.heap.size W w' from fun W h => by
                obtain ⟨A', c', he, -, -, hsl, -⟩ := (HV9.out.below (hE.trans (h.mono hE.size))).form
                simp only [Value.slice.injEq] at he
                obtain ⟨rfl, -, rfl⟩ := he
                have h9 := ints_any V none vc 0 W.heap.size W.heap.size _ _ [] [] W rfl rfl hsl (fun h => absurd h (by decide)) (Nat.le_refl _) (Nat.le_refl _) (by decide)
                rw [decide_eq_true (rfl : ([] : List Int) = [])] at h9
                exact h9)
              have hd5 := below_dr (Below.refl w10.heap.size w10)
              clear RB hlt9 hY9 HV9 HF3 HRI2 hPd HP
              go_region_held3 (fun W => ((W.cell? ⟨g9, 0, none⟩ = some (.int .i64 P.kd) ∧ W.cell? ⟨g9, 1, none⟩ = some (.int .i64 P.sq) ∧ W.cell? ⟨g9, 2, none⟩ = some (.int .i64 P.ep) ∧ W.cell? ⟨g9, 3, none⟩ = some (.int .i64 P.ps) ∧ W.cell? ⟨g9, 4, none⟩ = some (.int .i64 P.nm) ∧ W.cell? ⟨g9, 5, none⟩ = some (.int .i64 P.z) ∧ W.cell? ⟨g9, 6, none⟩ = some (.int .i64 P.wh) ∧ W.cell? ⟨g9, 7, none⟩ = some (.slice Y P.l.length yc)) ∧ (W.cell? ⟨b1, off + AT * 8, none⟩ = some (.int .i64 rr.kd) ∧ W.cell? ⟨b1, off + AT * 8 + 1, none⟩ = some (.int .i64 rr.sq) ∧ W.cell? ⟨b1, off + AT * 8 + 2, none⟩ = some (.int .i64 rr.ep) ∧ W.cell? ⟨b1, off + AT * 8 + 3, none⟩ = some (.int .i64 rr.ps) ∧ W.cell? ⟨b1, off + AT * 8 + 4, none⟩ = some (.int .i64 rr.nm) ∧ W.cell? ⟨b1, off + AT * 8 + 5, none⟩ = some (.int .i64 rr.i.z) ∧ W.cell? ⟨b1, off + AT * 8 + 6, none⟩ = some (.int .i64 rr.i.wh) ∧ W.cell? ⟨b1, off + AT * 8 + 7, none⟩ = some (.slice rr.i.A rr.i.l.length rr.i.c))) ∧ Below w10.heap.size w10 W)
                ((refine HFE.out _ ?_; first
                  | with_reducible exact hbZ
                  | with_reducible exact hbB
                  | with_reducible exact hbA
                  | with_reducible exact hd5
                  | fail))
                (first
                  | (go_at_call 12; (with_reducible refine (HKR.out w10.drew hd5).mono ?_); rintro e wA ⟨rfl, hbq⟩; have hbA : Below w10.heap.size w10 wA := bt hd5 hbq; clear hbq)
                  | (go_at_call 17; (with_reducible refine (HIN.out wA hbA).mono ?_); rintro e wB ⟨rfl, hbq⟩; have hbB : Below w10.heap.size w10 wB := bt hbA hbq; clear hbq)
                  | (go_at_call 13; (with_reducible refine (HK.out wB (bt bAE hbB)).mono ?_); rintro e wZ ⟨rfl, hbq⟩; have hbZ : Below w10.heap.size w10 wZ := bt hbB hbq; clear hbq)
                  | fail)
              go_wp2_with fail
              go_ret
              exact ⟨rfl, bt bAE hbZ⟩
end Go.Proofs.YtpcadoekhoediaaGreatDoor.prr

namespace Go.Proofs.YtpcadoekhoediaaGreatDoor.prr
open Go.RowKit Go.Lib
open Go.Proofs.YtpcadoekhoediaaGreatDoor.gmt (Ok)
open Go.Proofs.YtpcadoekhoediaaGreatDoor.anc (AV HeavyA)
open Go.Proofs.YtpcadoekhoediaaGreatDoor.img

theorem pairleft_law (z d s l a : Int) (x : AV) (v : IV) (sl0 sq0 at0 m0 m1 m2 : Int) (w : World) (hc : Cpr w) (hk : ∀ W, Below w.heap.size w W → Calls Tryz.prog 13 #[] W fun e w' => e = .returned (.bool true) ∧ Below W.heap.size W w') (hx : x.In w w.heap.size) (hv : v.In w w.heap.size) :
    Calls Tryz.prog 4 #[.agg #[.int .i64 z, .int .i64 d, .int .i64 s, .int .i64 l, .int .i64 a], .agg #[.int .i64 x.gen, .int .i64 x.ep, .int .i64 x.pos, .int .i64 x.seq, .int .i64 x.last, .string x.lab, .slice x.HA x.hs.length x.hc], .slice v.A v.rs.length v.c, .int .i64 sl0, .int .i64 sq0, .int .i64 at0, .agg #[.int .i64 m0, .int .i64 m1, .int .i64 m2]] w fun e w' => e = .returned (.bool true) ∧ Below w.heap.size w w' := by
  by_cases hh : HeavyA x.d
  · exact left_heavy z d s l a x v.A v.c v.rs.length sl0 sq0 at0 m0 m1 m2 w hx hh
  by_cases hn : (40 : Int) < (v.rs.length : Int)
  · exact left_long z d s l a x v.A v.c v.rs.length sl0 sq0 at0 m0 m1 m2 w hx hh hn
  by_cases ho : Ok z d s l a
  case neg => exact left_geo z d s l a x v.A v.c v.rs.length sl0 sq0 at0 m0 m1 m2 w hx hh hn ho
  by_cases hg : anc.Good z d s l x.d
  case neg => exact left_bad z d s l a x v.A v.c v.rs.length sl0 sq0 at0 m0 m1 m2 w hx hh hn ho hg
  by_cases h0 : v.rs.length = 0
  · exact left_none z d s l a x v.A v.c v.rs.length sl0 sq0 at0 m0 m1 m2 w hx hh h0 ho hg
  by_cases hl : l ≤ (v.rs.length : Int)
  · exact left_many z d s l a x v.A v.c v.rs.length sl0 sq0 at0 m0 m1 m2 w hx hh hn h0 hl ho hg
  exact left_main z d s l a x v v.rs.length sl0 sq0 at0 m0 m1 m2 w hc hk hx hv rfl hh hn h0 hl ho hg
theorem pairleft_said (z d s l a : Int) (x : AV) (vA : Option Addr) (vc : Nat) (vr : List ImR) (sl0 sq0 at0 m0 m1 m2 : Int) (w : World) (hc : Cpr w) (hk : ∀ W, Below w.heap.size w W → Calls Tryz.prog 13 #[] W fun e w' => e = .returned (.bool true) ∧ Below W.heap.size W w') (hx : x.In w w.heap.size) (h1 : vr.length ≤ vc) (h2 : vc ≤ maxLen) (h3 : SlV w w.heap.size vA (ivs vr)) (h4 : IIn w w.heap.size vr) :
    Calls Tryz.prog 4 #[.agg #[.int .i64 z, .int .i64 d, .int .i64 s, .int .i64 l, .int .i64 a], x.v, .slice vA vr.length vc, .int .i64 sl0, .int .i64 sq0, .int .i64 at0, .agg #[.int .i64 m0, .int .i64 m1, .int .i64 m2]] w fun e w' => e = .returned (.bool true) ∧ Below w.heap.size w w' :=
  pairleft_law z d s l a x ⟨vA, vc, vr⟩ sl0 sq0 at0 m0 m1 m2 w hc hk hx ⟨h3, h4, h1, h2⟩
end Go.Proofs.YtpcadoekhoediaaGreatDoor.prr
