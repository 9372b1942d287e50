/-
  anchor.Bytes: an anchor's bytes. Conditions: rows shorter than 2^20; what label.Check and label.Bytes answer of its label is given.
  What Unrow and label.Read come to, as anchor.parse calls them. Conditions: each law's own; 'ValidOk', 'Tabs' as package label's contracts ask.
-/
import Derived.Test.YtbfdpibjicjagaaGreatDoorGAc
import Derived.Test.YtbfdpibjicjagaaGreatDoorGAm
import Derived.Test.YtbfdpibjicjagaaGreatDoorGPk
import Derived.Deep.RegionHeld3
namespace Go.Proofs.YtbfdpibjicjagaaGreatDoor.anc
open Go.RowKit Go.Lib
open Go.Proofs.YtbfdpibjicjagaaGreatDoor.gmt (Ok five_new check_ok check_no)
open Go.Proofs.YtbfdpibjicjagaaGreatDoor.pck (le le_length AllFit Fits Sz bytesOf Rowed row_any)
open Go.Proofs.YtbfdpibjicjagaaGreatDoor.lbl (encL labE)
theorem fit4 {n : Int} (h : 0 ≤ n ∧ n ≤ 4294967295) : Fits n 4 := ⟨4, n.toNat, rfl, by omega, .inr (.inr rfl), by omega⟩
theorem fit1 {n : Int} (h : 0 ≤ n ∧ n ≤ 255) : Fits n 1 := ⟨1, n.toNat, rfl, by omega, .inl rfl, by omega⟩
theorem allfit_cons {p : Int × Int} {l : List (Int × Int)} (h : Fits p.1 p.2) (k : AllFit l) : AllFit (p :: l) := fun q hq => by
 rcases List.mem_cons.1 hq with rfl | hq
 ·exact h
 ·exact k q hq
theorem allfit_nil : AllFit [] := fun q hq => by cases hq
theorem head_fit {a : Anc} (h1 : 0 ≤ a.gen ∧ a.gen ≤ 4294967295) (h2 : 0 ≤ a.ep ∧ a.ep ≤ 4294967295) (h3 : 0 ≤ a.seq ∧ a.seq ≤ 4294967295) (h4 : 0 ≤ a.last ∧ a.last ≤ 4294967295) (h5 : 0 ≤ a.pos ∧ a.pos ≤ 255) :
  AllFit ([a.gen, a.ep, a.seq, a.last, a.pos].zip [4, 4, 4, 4, 1]) := allfit_cons (fit4 h1) (allfit_cons (fit4 h2) (allfit_cons (fit4 h3) (allfit_cons (fit4 h4) (allfit_cons (fit1 h5) allfit_nil))))
end Go.Proofs.YtbfdpibjicjagaaGreatDoor.anc
namespace Go.Proofs.YtbfdpibjicjagaaGreatDoor.anc
open Go.RowKit Go.Lib
open Go.Proofs.YtbfdpibjicjagaaGreatDoor.pck (le le_length num unrow behind behind_nil behind_next)
open Go.Proofs.YtbfdpibjicjagaaGreatDoor.lbl (encL labE ValidOk Tabs)
theorem behind_ok (l t : List Int) (r : List UInt8) : behind l (.ok (t, r)) = .ok (l ++ t, r) := rfl
theorem behind_err (l : List Int) (x : Int) : behind l (.error x) = .error x := rfl
theorem behind_two (a b : List Int) (r : Except Int (List Int × List UInt8)) : behind a (behind b r) = behind (a ++ b) r := by
 cases r with
 | ok p => simp [behind]
 | error x => rfl
theorem unrow_step (k : Nat) (s : Int) (ss : List Int) (b : List UInt8) (hs : s = 1 ∨ s = 2 ∨ s = 4) (hk : s = k) :
  unrow (s :: ss) b = if b.length < k then .error 4 else behind [(num (b.take k) : Int)] (unrow ss (b.drop k)) := by
 subst hk
 by_cases h : b.length < k
 ·rw [unrow, if_pos hs, if_pos (by rw [Int.toNat_natCast]; exact h), if_pos h]
 ·rw [if_neg h]
  have := behind_next (l := []) (ss := ss) (b := b) hs (by rw [Int.toNat_natCast]; exact h)
  rw [behind_nil, Int.toNat_natCast] at this
  exact this
section
variable {w w' : World} {lo : Nat} {A : Option Addr} {l : List UInt8}
end
end Go.Proofs.YtbfdpibjicjagaaGreatDoor.anc
