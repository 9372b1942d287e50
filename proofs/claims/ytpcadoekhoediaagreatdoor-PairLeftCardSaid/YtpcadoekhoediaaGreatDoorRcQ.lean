/-
  The laws' own example (wakes). Conditions: 'Crd'.
-/
import Derived.Test.YtpcadoekhoediaaGreatDoorRcP
import Derived.Test.YtpcadoekhoediaaGreatDoorGGm
import Derived.Deep.RegionHeld3
namespace Go.Proofs.YtpcadoekhoediaaGreatDoor.lrc
open Go.RowKit Go.Lib
open Go.Proofs.YtpcadoekhoediaaGreatDoor.gmt (Ok)
open Go.Proofs.YtpcadoekhoediaaGreatDoor.anc (bl kal kst ks bm ka)
open Go.Proofs.YtpcadoekhoediaaGreatDoor.tbl (C1 c1_new G5 g5_new)
open Go.Proofs.YtpcadoekhoediaaGreatDoor.img

theorem own_bytes {w : World} {base n c : Nat} {e : TypeId} {X : Option Addr} {l : List UInt8} (h : Own w base e (.slice X n c) l) : l.length = n ∧ n ≤ c ∧ c ≤ maxLen ∧ Sl w w.heap.size X l := by
  obtain ⟨Y, y, hv, h1, h2, h3, -⟩ := h.form
  simp only [Value.slice.injEq] at hv
  obtain ⟨rfl, rfl, rfl⟩ := hv
  exact ⟨rfl, h1, h2, h3⟩
def z8 : List UInt8 := [0, 0, 0, 0, 0, 0, 0, 0]
theorem make_8 (W : World) : (Instr.makeSlice 28 (.int .i64 8) (.int .i64 8)).run Tryz.prog W = .ok (.slice (some ⟨W.heap.size, 0, none⟩) 8 8) (W.alloc (.cells #[.int .u8 0, .int .u8 0, .int .u8 0, .int .u8 0, .int .u8 0, .int .u8 0, .int .u8 0, .int .u8 0] 5)) := by kernel_rfl
/-- One image as it lies in a block of its own. -/
theorem one_img {w : World} {g : Nat} {x : ImR} {t : TypeId} (h : w.heap[g]? = some (.cells #[.int .i64 x.z, .int .i64 x.wh, .slice x.A x.l.length x.c] t)) (hg : g < w.heap.size) (hx : BIn w w.heap.size x) : IV.In w w.heap.size ⟨some ⟨g, 0, none⟩, 1, [x]⟩ :=
  ⟨SlV.of_block h (by simp [ivs, ImR.vs]) hg, fun y hy => by rw [List.mem_singleton] at hy; rw [hy]; exact hx, by simp; decide⟩
def wkI : List (Int × Int × List UInt8) := [(0, -1, z8)]
theorem wk_txn : txnR 3 2 wkI = [⟨1, 3, 2, 0, 2, 0, -1, z8⟩, ⟨2, 3, 2, 1, 2, 0, 0, []⟩] := rfl
theorem wk_ims {z d : Int} (hz : 1 ≤ z) (hd : 1 ≤ d) : ImsOk z d wkI := by
  intro x hx
  rw [wkI, List.mem_singleton] at hx
  subst hx
  exact ⟨⟨by decide, by show (0 : Int) ≤ z - 1; omega⟩, .inr ⟨by decide, ⟨by decide, by show (-1 : Int) ≤ d - 1; omega⟩, rfl⟩⟩
theorem wk_ok {z d : Int} (hz : 1 ≤ z) (hd : 1 ≤ d) : RecOk z d ⟨1, 3, 2, 0, 2, 0, -1, z8⟩ :=
  .inr (.inr ⟨⟨⟨by decide, by decide⟩, ⟨by decide, by decide⟩, by decide, by decide⟩, rfl, ⟨by decide, by decide⟩, wk_ims hz hd (0, -1, z8) (List.mem_singleton.2 rfl)⟩)
theorem wk_not {z d : Int} : ¬ RecOk z d ⟨0, 1, 0, 0, 0, 0, 0, []⟩ := by
  rintro (⟨-, h, -⟩ | ⟨-, h, -⟩ | ⟨-, h, -⟩) <;> exact absurd h (by decide)
end Go.Proofs.YtpcadoekhoediaaGreatDoor.lrc
