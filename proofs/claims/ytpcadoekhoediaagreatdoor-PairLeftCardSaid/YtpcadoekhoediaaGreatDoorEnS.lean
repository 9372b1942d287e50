/-
  Package entry, what both sides stand on: what a reading's sector is, by the document. Conditions: none.
-/
import Derived.Test.YtpcadoekhoediaaGreatDoorGTa
import Derived.Test.YtpcadoekhoediaaGreatDoorGGm
import Derived.Test.YtpcadoekhoediaaGreatDoorGSl
import Derived.Test.YtpcadoekhoediaaGreatDoorNwV
import Derived.Deep.RegionHeld3
import Derived.Deep.QuietTactic
import Derived.BigQuiet
namespace Go.Proofs.YtpcadoekhoediaaGreatDoor.ent
open Go.RowKit Go.Lib
open Go.Proofs.YtpcadoekhoediaaGreatDoor.gmt (Ok)
open Go.Proofs.YtpcadoekhoediaaGreatDoor.anc (bl kal kst ks bm ka)
open Go.Proofs.YtpcadoekhoediaaGreatDoor.sel (Three three_new Lies opened Opn no opened_err ref_open ref_seal enc)
open Go.Proofs.YtpcadoekhoediaaGreatDoor.tbl (Ent EntOk entsN TV)

/-- What a reading (an error, bytes) says at an address with a stamp; a block of it; a table of it. -/
def SayB (e : Int) (b : List UInt8) (addr stamp : Int) : Prop := e = 0 ∧ (opened b).err = 0 ∧ ((opened b).addr : Int) = addr ∧ ((opened b).stamp : Int) = stamp
def BlkB (e : Int) (b : List UInt8) (addr stamp sm : Int) : Prop := SayB e b addr stamp ∧ (opened b).load.length = 8 ∧ ((crc.sum (opened b).load : Nat) : Int) = sm
def TabB (d e : Int) (b : List UInt8) (addr root : Int) : Prop := SayB e b addr root ∧ tbl.Told d (opened b).load
/-- What is answered where it is so; else nothing. -/
def part {α : Type} (c : Bool) (l : List α) : List α := if c = true then l else []
theorem part_yes {α : Type} (l : List α) : part true l = l := rfl
theorem part_no {α : Type} (l : List α) : part false l = [] := rfl
/-- What the document's Open answers. -/
def OpR (base : Nat) (r : Opn) (e : Ending) (w' : World) : Prop := ∃ (Y : Option Addr) (y : Nat), e = .returned (.tuple #[.agg #[.int .i64 r.addr, .int .i64 r.stamp, .slice Y r.load.length y], .int .i64 r.err]) ∧ Own w' base 5 (.slice Y r.load.length y) r.load
theorem ropen_r (n c : Nat) (A : Option Addr) (b : List UInt8) (W : World) (hn : b.length = n) (hc : n ≤ c) (hA : Sl W W.heap.size A b) :
    Calls Tryz.prog 53 #[.slice A n c] W fun e w' => OpR W.heap.size (opened b) e w' ∧ Below W.heap.size W w' := by
  refine (ref_open n A c b W hn hc hA).mono ?_
  rintro e w' ⟨⟨v, rfl, ho⟩, hb⟩
  obtain ⟨Y, y, hv, -, -, -, -⟩ := id ho.form
  subst hv
  exact ⟨⟨Y, y, rfl, ho⟩, hb⟩
/-- What a reading's sector is. -/
def SecQ (base : Nat) (r : Opn) (e : Ending) (w' : World) : Prop := ∃ (Y : Option Addr) (y : Nat), e = .returned (.tuple #[.agg #[.int .i64 r.addr, .int .i64 r.stamp, .slice Y r.load.length y], .bool true]) ∧ Own w' base 5 (.slice Y r.load.length y) r.load
def SecNo (e : Ending) : Prop := e = .returned (.tuple #[.agg #[.int .i64 0, .int .i64 0, .slice none 0 0], .bool false])
set_option maxRecDepth 100000 in
set_option maxHeartbeats 8000000 in
theorem rsector_err (e addr : Int) (A : Option Addr) (n c : Nat) (w : World) (he : e ≠ 0) :
    Calls Tryz.prog 30 #[.agg #[.int .i64 e, .slice A n c], .int .i64 addr] w fun e w' => SecNo e ∧ Below w.heap.size w w' := by
  have i1 : (e != 0) = true := bne_iff_ne.2 he
  have GC : (w.alloc (.cells #[.int .i64 e, .slice A n c] 30)).cell? ⟨w.heap.size, 0, none⟩ = some (.int .i64 e) ∧ (w.alloc (.cells #[.int .i64 e, .slice A n c] 30)).cell? ⟨w.heap.size, 1, none⟩ = some (.slice A n c) := by
    constructor <;> (rw [cell_of_row _ _ _ _ _ _ (heap_alloc_new w _)]; rfl)
  have hbz := bl (w.alloc (.cells #[.int .i64 e, .slice A n c] 30)) (.cells #[.int .i64 0, .int .i64 0, .slice none 0 0] 68)
  have x0 := kst hbz (by simp) GC.1
  have x1 := kst hbz (by simp) GC.2
  have P := three_new (w.alloc (.cells #[.int .i64 e, .slice A n c] 30)) (.int .i64 0) (.int .i64 0) (.slice none 0 0) 68
  rw [show (w.alloc (.cells #[.int .i64 e, .slice A n c] 30)).heap.size = w.heap.size + 1 by simp] at P
  have hb0 := kal (bl w (.cells #[.int .i64 e, .slice A n c] 30)) (.cells #[.int .i64 0, .int .i64 0, .slice none 0 0] 68)
  have l1 : w.heap.size + 1 < ((w.alloc (.cells #[.int .i64 e, .slice A n c] 30)).alloc (.cells #[.int .i64 0, .int .i64 0, .slice none 0 0] 68)).heap.size := by simp
  clear GC hbz
  go_enter Tryz.func30, Tryz.ntmps30
  go_upto_region 1 with fail
  generalize (w.alloc (.cells #[.int .i64 e, .slice A n c] 30)).alloc (.cells #[.int .i64 0, .int .i64 0, .slice none 0 0] 68) = w0 at *
  obtain ⟨p0, p1, p2, f0, f1, f2⟩ := id P
  clear he
  go_wp2_with fail
  have k7 := P.set (.int .i64 0) (.int .i64 0) (.slice none 0 0)
  refine bodyPost_ret (v := .tuple #[.agg #[.int .i64 0, .int .i64 0, .slice none 0 0], .bool false]) (by simp [results, Tryz.results30, go_sem, k7.c0, k7.c1, k7.c2]) rfl ⟨rfl, ?_⟩
  exact Three.below hb0 (Nat.le_succ _) _ _ _
set_option maxRecDepth 100000 in
set_option maxHeartbeats 8000000 in
theorem rsector_no (e addr : Int) (A : Option Addr) (n c : Nat) (b : List UInt8) (w : World) (hn : b.length = n) (hc : n ≤ c) (hA : Sl w w.heap.size A b) (h : ¬ ((opened b).err = 0 ∧ ((opened b).addr : Int) = addr)) (he : e = 0) :
    Calls Tryz.prog 30 #[.agg #[.int .i64 e, .slice A n c], .int .i64 addr] w fun e w' => SecNo e ∧ Below w.heap.size w w' := by
  subst he
  have HO := Lib.hid (show ∀ W, Below w.heap.size w W → Calls Tryz.prog 53 #[.slice A n c] W fun e w' => OpR W.heap.size (opened b) e w' ∧ Below W.heap.size W w' from fun W hW => ropen_r n c A b W hn hc (hA.next hW))
  clear hA hn hc
  generalize opened b = r at *
  have q : ((r.err : Int) != 0) = true ∨ (((r.err : Int) != 0) = false ∧ ((r.addr : Int) != addr) = true) := by
    by_cases h1 : r.err = 0
    · exact .inr ⟨by rw [h1]; rfl, bne_iff_ne.2 fun k => h ⟨h1, k⟩⟩
    · exact .inl (bne_iff_ne.2 (by omega))
  clear h
  have GC : (w.alloc (.cells #[.int .i64 0, .slice A n c] 30)).cell? ⟨w.heap.size, 0, none⟩ = some (.int .i64 0) ∧ (w.alloc (.cells #[.int .i64 0, .slice A n c] 30)).cell? ⟨w.heap.size, 1, none⟩ = some (.slice A n c) := by
    constructor <;> (rw [cell_of_row _ _ _ _ _ _ (heap_alloc_new w _)]; rfl)
  have hbz := bl (w.alloc (.cells #[.int .i64 0, .slice A n c] 30)) (.cells #[.int .i64 0, .int .i64 0, .slice none 0 0] 68)
  have x0 := kst hbz (by simp) GC.1
  have x1 := kst hbz (by simp) GC.2
  have P := three_new (w.alloc (.cells #[.int .i64 0, .slice A n c] 30)) (.int .i64 0) (.int .i64 0) (.slice none 0 0) 68
  rw [show (w.alloc (.cells #[.int .i64 0, .slice A n c] 30)).heap.size = w.heap.size + 1 by simp] at P
  have hb0 := kal (bl w (.cells #[.int .i64 0, .slice A n c] 30)) (.cells #[.int .i64 0, .int .i64 0, .slice none 0 0] 68)
  have l1 : w.heap.size + 1 < ((w.alloc (.cells #[.int .i64 0, .slice A n c] 30)).alloc (.cells #[.int .i64 0, .int .i64 0, .slice none 0 0] 68)).heap.size := by simp
  clear GC hbz
  go_enter Tryz.func30, Tryz.ntmps30
  go_upto_region 1 with fail
  generalize (w.alloc (.cells #[.int .i64 0, .slice A n c] 30)).alloc (.cells #[.int .i64 0, .int .i64 0, .slice none 0 0] 68) = w0 at *
  obtain ⟨p0, p1, p2, f0, f1, f2⟩ := id P
  go_upto_region 4 with (go_at_call 53; (with_reducible refine (HO.out _ hb0).mono ?_); rintro e w1 ⟨⟨Y, y, rfl, -⟩, hb1⟩)
  have hx := bl w1 (.cells #[.int .i64 r.addr, .int .i64 r.stamp, .slice Y r.load.length y] 68)
  have T := three_new w1 (.int .i64 r.addr) (.int .i64 r.stamp) (.slice Y r.load.length y) 68
  have P2 := (P.keep hb1 l1).keep hx (Nat.lt_of_lt_of_le l1 hb1.size)
  have hb2 := bt (bt hb0 hb1) hx
  clear p0 p1 p2 f0 f1 f2 P x0 x1 hb0 hb1 hx l1 HO
  generalize w1.alloc (.cells #[.int .i64 r.addr, .int .i64 r.stamp, .slice Y r.load.length y] 68) = w2 at *
  obtain ⟨p0, p1, p2, f0, f1, f2⟩ := id P2
  obtain ⟨t0, t1, t2, -, -, -⟩ := id T
  rcases q with q | ⟨q, q2⟩
  all_goals
    go_wp2_with fail
    have k7 := P2.set (.int .i64 0) (.int .i64 0) (.slice none 0 0)
    refine bodyPost_ret (v := .tuple #[.agg #[.int .i64 0, .int .i64 0, .slice none 0 0], .bool false]) (by simp [results, Tryz.results30, go_sem, k7.c0, k7.c1, k7.c2]) rfl ⟨rfl, ?_⟩
    exact Three.below hb2 (Nat.le_succ _) _ _ _
set_option maxRecDepth 100000 in
set_option maxHeartbeats 8000000 in
theorem rsector_yes (e addr : Int) (A : Option Addr) (n c : Nat) (b : List UInt8) (w : World) (hn : b.length = n) (hc : n ≤ c) (hA : Sl w w.heap.size A b) (h1 : (opened b).err = 0) (h2 : ((opened b).addr : Int) = addr) (he : e = 0) :
    Calls Tryz.prog 30 #[.agg #[.int .i64 e, .slice A n c], .int .i64 addr] w fun e w' => SecQ w.heap.size (opened b) e w' ∧ Below w.heap.size w w' := by
  subst he
  have HO := Lib.hid (show ∀ W, Below w.heap.size w W → Calls Tryz.prog 53 #[.slice A n c] W fun e w' => OpR W.heap.size (opened b) e w' ∧ Below W.heap.size W w' from fun W hW => ropen_r n c A b W hn hc (hA.next hW))
  clear hA hn hc
  generalize opened b = r at *
  have q1 : ((r.err : Int) != 0) = false := by rw [h1]; rfl
  have q2 : ((r.addr : Int) != addr) = false := by rw [h2]; exact bne_self_eq_false _
  clear h1 h2
  have GC : (w.alloc (.cells #[.int .i64 0, .slice A n c] 30)).cell? ⟨w.heap.size, 0, none⟩ = some (.int .i64 0) ∧ (w.alloc (.cells #[.int .i64 0, .slice A n c] 30)).cell? ⟨w.heap.size, 1, none⟩ = some (.slice A n c) := by
    constructor <;> (rw [cell_of_row _ _ _ _ _ _ (heap_alloc_new w _)]; rfl)
  have hbz := bl (w.alloc (.cells #[.int .i64 0, .slice A n c] 30)) (.cells #[.int .i64 0, .int .i64 0, .slice none 0 0] 68)
  have x0 := kst hbz (by simp) GC.1
  have x1 := kst hbz (by simp) GC.2
  have P := three_new (w.alloc (.cells #[.int .i64 0, .slice A n c] 30)) (.int .i64 0) (.int .i64 0) (.slice none 0 0) 68
  rw [show (w.alloc (.cells #[.int .i64 0, .slice A n c] 30)).heap.size = w.heap.size + 1 by simp] at P
  have hb0 := kal (bl w (.cells #[.int .i64 0, .slice A n c] 30)) (.cells #[.int .i64 0, .int .i64 0, .slice none 0 0] 68)
  have l1 : w.heap.size + 1 < ((w.alloc (.cells #[.int .i64 0, .slice A n c] 30)).alloc (.cells #[.int .i64 0, .int .i64 0, .slice none 0 0] 68)).heap.size := by simp
  clear GC hbz
  go_enter Tryz.func30, Tryz.ntmps30
  go_upto_region 1 with fail
  generalize (w.alloc (.cells #[.int .i64 0, .slice A n c] 30)).alloc (.cells #[.int .i64 0, .int .i64 0, .slice none 0 0] 68) = w0 at *
  obtain ⟨p0, p1, p2, f0, f1, f2⟩ := id P
  go_upto_region 4 with (go_at_call 53; (with_reducible refine (HO.out _ hb0).mono ?_); rintro e w1 ⟨⟨Y, y, rfl, hs⟩, hb1⟩)
  have hx := bl w1 (.cells #[.int .i64 r.addr, .int .i64 r.stamp, .slice Y r.load.length y] 68)
  have T := three_new w1 (.int .i64 r.addr) (.int .i64 r.stamp) (.slice Y r.load.length y) 68
  have P2 := (P.keep hb1 l1).keep hx (Nat.lt_of_lt_of_le l1 hb1.size)
  have hb2 := bt (bt hb0 hb1) hx
  have HS := Lib.hid (hs.below hx)
  have hl0 := hb0.size
  clear p0 p1 p2 f0 f1 f2 P x0 x1 hb0 hb1 hx HO hs
  generalize w1.alloc (.cells #[.int .i64 r.addr, .int .i64 r.stamp, .slice Y r.load.length y] 68) = w2 at *
  obtain ⟨p0, p1, p2, f0, f1, f2⟩ := id P2
  obtain ⟨t0, t1, t2, -, -, -⟩ := id T
  go_wp2_with fail
  have k7 := P2.set (.int .i64 r.addr) (.int .i64 r.stamp) (.slice Y r.load.length y)
  refine bodyPost_ret (v := .tuple #[.agg #[.int .i64 r.addr, .int .i64 r.stamp, .slice Y r.load.length y], .bool true]) (by simp [results, Tryz.results30, go_sem, k7.c0, k7.c1, k7.c2]) rfl ⟨⟨Y, y, rfl, (sel.own_three HS.out l1 _ _ _).less hl0⟩, Three.below hb2 (Nat.le_succ _) _ _ _⟩
end Go.Proofs.YtpcadoekhoediaaGreatDoor.ent
