/-
  What the laws of package table ask of its functions; the laws' own example (wakes). Conditions: 'Ctt'.
-/
import Derived.Test.YtajjmllolaajoaaTbS
import Derived.Test.YtajjmllolaajoaaTbX
import Derived.Test.YtajjmllolaajoaaGGm
namespace Go.Proofs.Ytajjmllolaajoaa.tbl
open Go.RowKit Go.Lib
open Go.Proofs.Ytajjmllolaajoaa.gmt (Ok five_new)
open Go.Proofs.Ytajjmllolaajoaa.anc (flat_get flat_len slv_cell bl kal kst ks bm ka)

/-- A table and an error, bytes and an error, integers and an error. -/
def TbE (base : Nat) (es : List Ent) (n : Int) (e : Ending) (w' : World) : Prop := ∃ t : TV, e = .returned (.tuple #[t.v, .int .i64 n]) ∧ t.es = es ∧ t.Own w' base
def BytE (base q : Nat) (l : List UInt8) (n : Int) (e : Ending) (w' : World) : Prop := ∃ (X : Option Addr) (c : Nat), e = .returned (.tuple #[.slice X q c, .int .i64 n]) ∧ l.length = q ∧ Own w' base 5 (.slice X q c) l
def NonE (n : Int) (e : Ending) : Prop := ∃ (X : Option Addr) (c : Nat), e = .returned (.tuple #[.slice X 0 c, .int .i64 n])
def IntE (q : Nat) (l : List Int) (e : Ending) (w' : World) : Prop := ∃ (X : Option Addr) (c : Nat), e = .returned (.tuple #[.slice X q c, .int .i64 0]) ∧ l.length = q ∧ SlV w' w'.heap.size X (ints l)
/-- Which of the first k are lost. -/
def lostN (es : List Ent) : Nat → List Int
  | 0 => []
  | k + 1 => lostN es k ++ (if (es[k]?.map Ent.ls).getD false then [(k : Int)] else [])
theorem lostN_le (es : List Ent) : ∀ k, (lostN es k).length ≤ k
  | 0 => Nat.le_refl _
  | k + 1 => by
    have := lostN_le es k
    unfold lostN
    split <;> simp <;> omega
theorem zer8_pos : 0 < crc.sum zer8 ∧ crc.sum zer8 ≤ 4294967295 := by decide +kernel
theorem newE_ok : EntOk newE := ⟨⟨by decide, by decide⟩, Int.natCast_nonneg _, by have := zer8_pos.2; show ((crc.sum zer8 : Nat) : Int) ≤ _; omega⟩
theorem new_good {d : Int} (hd : 0 ≤ d) : Good d (List.replicate (d.toNat + 1) newE) :=
  ⟨by rw [List.length_replicate]; omega, fun e he => by rw [List.eq_of_mem_replicate he]; exact newE_ok, fun e he => by rw [List.eq_of_mem_replicate (List.mem_of_getElem? he)]; rfl⟩
theorem ok_one : Ok 1 1 0 14 1 := by unfold Ok; omega
set_option maxRecDepth 100000 in
set_option maxHeartbeats 4000000 in
theorem some_one (w : World) :
    Calls Try.prog 24 #[.int .i64 0, .int .i64 0, .int .i64 0, .int .i64 0, .int .i64 0] w fun e w' => e = .returned (.agg #[.int .i64 1, .int .i64 1, .int .i64 0, .int .i64 14, .int .i64 1]) ∧ Below w.heap.size w w' := by
  go_enter Try.func24, Try.ntmps24
  go_wp2
  obtain ⟨g0, g1, g2, g3, g4⟩ := five_new w 1 1 0 14 1
  exact bodyPost_ret (v := .agg #[.int .i64 1, .int .i64 1, .int .i64 0, .int .i64 14, .int .i64 1]) (by simp [results, Try.results24, go_sem, g0, g1, g2, g3, g4]) rfl ⟨rfl, bl w _⟩
end Go.Proofs.Ytajjmllolaajoaa.tbl
