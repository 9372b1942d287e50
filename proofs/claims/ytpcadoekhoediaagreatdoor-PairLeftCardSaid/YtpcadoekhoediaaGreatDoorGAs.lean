/-
  anchor.homeOf: a home out of its numbers. Conditions: rows shorter than 2^20.
  anchor.parse: the anchor that bytes begin with. Conditions: fewer than 2^32 bytes; what label.Read answers is given.
  anchor.parse: the anchor that bytes begin with, where its head and its label are there. Conditions: as before.
  anchor.Read: the anchor of which bytes are the encoding. Conditions: fewer than 2^32 bytes; what label.Read and label.Check answer is given.
-/
import Derived.Test.YtpcadoekhoediaaGreatDoorGAe
import Derived.Test.YtpcadoekhoediaaGreatDoorGAi
namespace Go.Proofs.YtpcadoekhoediaaGreatDoor.anc
open Go.RowKit Go.Lib
open Go.Proofs.YtpcadoekhoediaaGreatDoor.gmt (Ok five_new check_ok check_no)

/-- What homeOf answers. -/
def HomeA (base D : Nat) (ps : List Int) (nx rt : Int) (e : Ending) (w' : World) : Prop := ∃ A c, e = .returned (.agg #[.slice A (D + 1) c, .int .i64 nx, .int .i64 rt]) ∧ OwnV w' base 3 (.slice A (D + 1) c) (ints ps)
end Go.Proofs.YtpcadoekhoediaaGreatDoor.anc

namespace Go.Proofs.YtpcadoekhoediaaGreatDoor.anc
open Go.RowKit Go.Lib
open Go.Proofs.YtpcadoekhoediaaGreatDoor.gmt (Ok five_new check_ok check_no)
open Go.Proofs.YtpcadoekhoediaaGreatDoor.pck (num unrow Unrowed unrow_any)
open Go.Proofs.YtpcadoekhoediaaGreatDoor.lbl (encL readL labE)

/-- What Unrow answers, by cases. -/
theorem unrow_no (n m : Nat) (A A' : Option Addr) (c c' : Nat) (l : List UInt8) (ss : List Int) (x : Int) (w : World) (hn : l.length = n) (hm : ss.length = m) (hl : m ≤ 1048576) (hc : n ≤ c) (hx : c ≤ maxLen) (hl2 : n ≤ 4294967296) (hr : unrow ss l = .error x) (hA : Sl w w.heap.size A l) (hA' : SlV w w.heap.size A' (ints ss)) :
    Calls Tryz.prog 67 #[.slice A n c, .slice A' m c'] w fun e w' => e = .returned (.tuple #[.slice none 0 0, .slice none 0 0, .int .i64 x]) ∧ Below w.heap.size w w' := by
  refine (unrow_any n m A A' c c' l ss w hn hm hl hc hx hl2 hA hA').mono fun e w' h => ⟨?_, h.2⟩
  have := h.1
  rw [hr] at this
  exact this
def UnrowQ (base p q : Nat) (ns : List Int) (r : List UInt8) (e : Ending) (w' : World) : Prop := ∃ A c X d, e = .returned (.tuple #[.slice A p c, .slice X q d, .int .i64 0]) ∧ p ≤ c ∧ c ≤ maxLen ∧ OwnV w' base 3 (.slice A p c) (ints ns) ∧ q ≤ d ∧ d ≤ maxLen ∧ Own w' base 5 (.slice X q d) r
theorem unrow_yes (n m p q : Nat) (A A' : Option Addr) (c c' : Nat) (l r : List UInt8) (ss ns : List Int) (w : World) (hn : l.length = n) (hm : ss.length = m) (hl : m ≤ 1048576) (hc : n ≤ c) (hx : c ≤ maxLen) (hl2 : n ≤ 4294967296) (hr : unrow ss l = .ok (ns, r)) (hp : ns.length = p) (hq : r.length = q) (hA : Sl w w.heap.size A l) (hA' : SlV w w.heap.size A' (ints ss)) :
    Calls Tryz.prog 67 #[.slice A n c, .slice A' m c'] w fun e w' => UnrowQ w.heap.size p q ns r e w' ∧ Below w.heap.size w w' := by
  refine (unrow_any n m A A' c c' l ss w hn hm hl hc hx hl2 hA hA').mono fun e w' h => ⟨?_, h.2⟩
  have := h.1
  rw [hr] at this
  obtain ⟨v, u, rfl, o1, o2⟩ := this
  obtain ⟨X1, c1, hv1, k1, k2, -, -⟩ := id o1.form
  obtain ⟨X2, c2, hv2, k3, k4, -, -⟩ := id o2.form
  subst hv1 hv2
  rw [ints_length, hp] at *
  rw [hq] at *
  exact ⟨X1, c1, X2, c2, rfl, k1, k2, o1, k3, k4, o2⟩

/-- What parse answers. -/
def ParsedA (base : Nat) (p : Option (Anc × List UInt8)) (e : Ending) (w' : World) : Prop :=
  match p with
  | none => e = .returned (.tuple #[noAV.v, .slice none 0 0, .int .i64 4])
  | some (x, r) => ∃ (y : AV) (X : Option Addr) (c : Nat), e = .returned (.tuple #[y.v, .slice X r.length c, .int .i64 0]) ∧ y.d = x ∧ y.Own w' base
theorem parsedA_none (base : Nat) (w : World) : ParsedA base none (.returned (.tuple #[.agg #[.int .i64 0, .int .i64 0, .int .i64 0, .int .i64 0, .int .i64 0, .string ⟨#[]⟩, .slice none 0 0], .slice none 0 0, .int .i64 4])) w := rfl
theorem parsedA_no {res : Option (Anc × List UInt8)} (h : res = none) (base : Nat) (w : World) : ParsedA base res (.returned (.tuple #[.agg #[.int .i64 0, .int .i64 0, .int .i64 0, .int .i64 0, .int .i64 0, .string ⟨#[]⟩, .slice none 0 0], .slice none 0 0, .int .i64 4])) w := by
  rw [h]
  rfl
theorem parsedA_yes {res : Option (Anc × List UInt8)} {x : Anc} {r : List UInt8} (h : res = some (x, r)) (y : AV) (X : Option Addr) (n c base : Nat) (w : World) (hn : r.length = n) (hd : y.d = x) (ho : y.Own w base) : ParsedA base res (.returned (.tuple #[y.v, .slice X n c, .int .i64 0])) w := by
  rw [h]
  exact ⟨y, X, c, by rw [hn], hd, ho⟩
theorem unrow_head_no {b : List UInt8} (h : b.length < 17) : unrow [4, 4, 4, 4, 1] b = .error 4 := by rw [unrow_head, if_pos h]
theorem unrow_head_yes {b : List UInt8} (h : ¬ b.length < 17) : unrow [4, 4, 4, 4, 1] b = .ok ([(num (b.take 4) : Int), (num ((b.drop 4).take 4) : Int), (num ((b.drop 8).take 4) : Int), (num ((b.drop 12).take 4) : Int), (num ((b.drop 16).take 1) : Int)], b.drop 17) := by rw [unrow_head, if_neg h]

theorem labR_none {l : List UInt8} {W : World} {e : Ending} {w' : World} (h : LabR l W e w') (hr : readL l = none) : e = .returned (.tuple #[.string ⟨#[]⟩, .int .i64 0, .int .i64 4]) ∧ Below W.heap.size W w' := by
  have := h.1
  rw [hr] at this
  exact ⟨this, h.2⟩
theorem labR_some {l t : List UInt8} {W : World} {e : Ending} {w' : World} (h : LabR l W e w') (hr : readL l = some t) : e = .returned (.tuple #[.string ⟨t.toArray⟩, .int .i64 (1 + (t.length : Int)), .int .i64 0]) ∧ Below W.heap.size W w' := by
  have := h.1
  rw [hr] at this
  exact ⟨this, h.2⟩

end Go.Proofs.YtpcadoekhoediaaGreatDoor.anc

namespace Go.Proofs.YtpcadoekhoediaaGreatDoor.anc
open Go.RowKit Go.Lib
open Go.Proofs.YtpcadoekhoediaaGreatDoor.gmt (Ok five_new check_ok check_no)
open Go.Proofs.YtpcadoekhoediaaGreatDoor.pck (num unrow Unrowed unrow_any)
open Go.Proofs.YtpcadoekhoediaaGreatDoor.lbl (encL readL labE)

theorem u8_home : 5 ≠ 64 := by decide
end Go.Proofs.YtpcadoekhoediaaGreatDoor.anc

namespace Go.Proofs.YtpcadoekhoediaaGreatDoor.anc
open Go.RowKit Go.Lib
open Go.Proofs.YtpcadoekhoediaaGreatDoor.gmt (Ok five_new check_ok check_no)
open Go.Proofs.YtpcadoekhoediaaGreatDoor.pck (num)
open Go.Proofs.YtpcadoekhoediaaGreatDoor.lbl (encL readL labE)

end Go.Proofs.YtpcadoekhoediaaGreatDoor.anc
