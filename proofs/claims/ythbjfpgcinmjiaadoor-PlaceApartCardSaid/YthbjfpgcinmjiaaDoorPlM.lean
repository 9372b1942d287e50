/-
  Package place, in plain data: where a block is, an anchor with a block moved, with a spare skipped. No condition.
-/
import Derived.Test.YthbjfpgcinmjiaaDoorGAm
import Derived.Test.YthbjfpgcinmjiaaDoorGAw
namespace Go.Proofs.YthbjfpgcinmjiaaDoor.plc
open Go.RowKit Go.Lib
open Go.Proofs.YthbjfpgcinmjiaaDoor.gmt (Ok)
open Go.Proofs.YthbjfpgcinmjiaaDoor.anc (Hom Anc HomR AV hds hvs HomeOk)

/-- Which of a zone's places. -/
def atP (d what : Int) : Int := if what = -1 then d else what
def slotA (z d s l a i j : Int) : Int := a + 2 * l + 2 * z + i * (d + 1 + s) + j
def skipA (X : Anc) (j : Nat) (h : Hom) : Anc := { X with hs := X.hs.set j { h with nx := h.nx + 1 } }
def moveA (X : Anc) (j i : Nat) (h : Hom) : Anc := { X with hs := X.hs.set j { h with ps := h.ps.set i h.nx, nx := h.nx + 1 } }

section
variable {z d s l a : Int} {X : Anc} {j i : Nat} {h : Hom}
theorem good_home (hg : anc.Good z d s l X) (hj : X.hs[j]? = some h) : HomeOk d s h := hg.2.2.2.2.2.2.2.2 h (List.mem_of_getElem? hj)
theorem good_zone (hg : anc.Good z d s l X) (h0 : (j : Int) < z) : ∃ h, X.hs[j]? = some h := by
  have h8 := hg.2.2.2.2.2.2.2.1
  have hl : j < X.hs.length := by omega
  exact ⟨_, List.getElem?_eq_getElem hl⟩
theorem good_set (hg : anc.Good z d s l X) (h' : Hom) (hh : HomeOk d s h') : anc.Good z d s l { X with hs := X.hs.set j h' } := by
  obtain ⟨g1, g2, g3, g4, g5, g6, g7, g8, g9⟩ := hg
  refine ⟨g1, g2, g3, g4, g5, g6, g7, by show ((X.hs.set j h').length : Int) = z; rw [List.length_set]; exact g8, fun x hx => ?_⟩
  rcases List.mem_or_eq_of_mem_set hx with k | k
  · exact g9 x k
  · rw [k]; exact hh
theorem good_skip (hg : anc.Good z d s l X) (hj : X.hs[j]? = some h) (hn : h.nx < d + 1 + s) : anc.Good z d s l (skipA X j h) := by
  obtain ⟨k1, k2, k3, k4⟩ := good_home hg hj
  refine good_set hg _ ⟨k1, ⟨by show d + 1 ≤ h.nx + 1; omega, by show h.nx + 1 ≤ d + 1 + s; omega⟩, k3, fun i hi => ⟨?_, (k4 i hi).2⟩⟩
  have := (k4 i hi).1
  show 0 ≤ h.ps[i] ∧ h.ps[i] ≤ h.nx + 1 - 1
  omega
theorem good_move (hg : anc.Good z d s l X) (hj : X.hs[j]? = some h) (hn : h.nx < d + 1 + s) : anc.Good z d s l (moveA X j i h) := by
  obtain ⟨k1, k2, k3, k4⟩ := good_home hg hj
  refine good_set hg _ ⟨by show ((h.ps.set i h.nx).length : Int) = d + 1; rw [List.length_set]; exact k1, ⟨by show d + 1 ≤ h.nx + 1; omega, by show h.nx + 1 ≤ d + 1 + s; omega⟩, k3, fun q hq => ?_⟩
  have hq' : q < h.ps.length := by have := hq; rwa [show ({ h with ps := h.ps.set i h.nx, nx := h.nx + 1 } : Hom).ps = h.ps.set i h.nx from rfl, List.length_set] at this
  show (0 ≤ (h.ps.set i h.nx)[q]'(by rw [List.length_set]; exact hq') ∧ (h.ps.set i h.nx)[q]'(by rw [List.length_set]; exact hq') ≤ h.nx + 1 - 1) ∧ ∀ k (hk : k < q), (h.ps.set i h.nx)[k]'(by rw [List.length_set]; omega) ≠ (h.ps.set i h.nx)[q]'(by rw [List.length_set]; exact hq')
  rw [List.getElem_set]
  obtain ⟨k5, k6⟩ := k4 q hq'
  refine ⟨by split <;> omega, fun k hk => ?_⟩
  rw [List.getElem_set]
  have hkl : k < h.ps.length := by omega
  have k7 := (k4 k hkl).1
  split
  · split
    · omega
    · omega
  · split
    · omega
    · exact k6 k hk
theorem skip_at (hj : X.hs[j]? = some h) : (skipA X j h).hs[j]? = some { h with nx := h.nx + 1 } := by
  obtain ⟨hl, -⟩ := List.getElem?_eq_some_iff.1 hj
  exact List.getElem?_set_self hl
theorem skip_other {k : Nat} (hk : k ≠ j) : (skipA X j h).hs[k]? = X.hs[k]? := List.getElem?_set_ne (Ne.symm hk)
theorem move_at (hj : X.hs[j]? = some h) : (moveA X j i h).hs[j]? = some { h with ps := h.ps.set i h.nx, nx := h.nx + 1 } := by
  obtain ⟨hl, -⟩ := List.getElem?_eq_some_iff.1 hj
  exact List.getElem?_set_self hl
theorem move_other {k : Nat} (hk : k ≠ j) : (moveA X j i h).hs[k]? = X.hs[k]? := List.getElem?_set_ne (Ne.symm hk)
theorem hds_at {hs : List HomR} (hj : (hds hs)[j]? = some h) : ∃ r, hs[j]? = some r ∧ r.d = h := by
  unfold hds at hj
  rw [List.getElem?_map] at hj
  cases e : hs[j]? with
  | none => rw [e] at hj; cases hj
  | some r => rw [e] at hj; exact ⟨r, rfl, Option.some.inj hj⟩
theorem hds_set (hs : List HomR) (r : HomR) : hds (hs.set j r) = (hds hs).set j r.d := by simp [hds, List.map_set]
end
end Go.Proofs.YthbjfpgcinmjiaaDoor.plc
