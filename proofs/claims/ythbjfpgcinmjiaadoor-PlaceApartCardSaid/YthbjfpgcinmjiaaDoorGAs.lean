/-
  anchor.homeOf: a home out of its numbers. Conditions: rows shorter than 2^20.
  anchor.parse: the anchor that bytes begin with. Conditions: fewer than 2^32 bytes; what label.Read answers is given.
  anchor.parse: the anchor that bytes begin with, where its head and its label are there. Conditions: as before.
  anchor.Read: the anchor of which bytes are the encoding. Conditions: fewer than 2^32 bytes; what label.Read and label.Check answer is given.
-/
import Derived.Test.YthbjfpgcinmjiaaDoorGAe
import Derived.Test.YthbjfpgcinmjiaaDoorGAi
namespace Go.Proofs.YthbjfpgcinmjiaaDoor.anc
open Go.RowKit Go.Lib
open Go.Proofs.YthbjfpgcinmjiaaDoor.gmt (Ok five_new check_ok check_no)

/-- What homeOf answers. -/
def HomeA (base D : Nat) (ps : List Int) (nx rt : Int) (e : Ending) (w' : World) : Prop := ∃ A c, e = .returned (.agg #[.slice A (D + 1) c, .int .i64 nx, .int .i64 rt]) ∧ OwnV w' base 3 (.slice A (D + 1) c) (ints ps)
end Go.Proofs.YthbjfpgcinmjiaaDoor.anc

namespace Go.Proofs.YthbjfpgcinmjiaaDoor.anc
open Go.RowKit Go.Lib
open Go.Proofs.YthbjfpgcinmjiaaDoor.gmt (Ok five_new check_ok check_no)
open Go.Proofs.YthbjfpgcinmjiaaDoor.pck (num unrow Unrowed)
open Go.Proofs.YthbjfpgcinmjiaaDoor.lbl (encL readL labE)

def UnrowQ (base p q : Nat) (ns : List Int) (r : List UInt8) (e : Ending) (w' : World) : Prop := ∃ A c X d, e = .returned (.tuple #[.slice A p c, .slice X q d, .int .i64 0]) ∧ p ≤ c ∧ c ≤ maxLen ∧ OwnV w' base 3 (.slice A p c) (ints ns) ∧ q ≤ d ∧ d ≤ maxLen ∧ Own w' base 5 (.slice X q d) r
/-- What parse answers. -/
def ParsedA (base : Nat) (p : Option (Anc × List UInt8)) (e : Ending) (w' : World) : Prop :=
  match p with
  | none => e = .returned (.tuple #[noAV.v, .slice none 0 0, .int .i64 4])
  | some (x, r) => ∃ (y : AV) (X : Option Addr) (c : Nat), e = .returned (.tuple #[y.v, .slice X r.length c, .int .i64 0]) ∧ y.d = x ∧ y.Own w' base
theorem parsedA_none (base : Nat) (w : World) : ParsedA base none (.returned (.tuple #[.agg #[.int .i64 0, .int .i64 0, .int .i64 0, .int .i64 0, .int .i64 0, .string ⟨#[]⟩, .slice none 0 0], .slice none 0 0, .int .i64 4])) w := rfl
theorem parsedA_no {res : Option (Anc × List UInt8)} (h : res = none) (base : Nat) (w : World) : ParsedA base res (.returned (.tuple #[.agg #[.int .i64 0, .int .i64 0, .int .i64 0, .int .i64 0, .int .i64 0, .string ⟨#[]⟩, .slice none 0 0], .slice none 0 0, .int .i64 4])) w := by
  rw [h]
  rfl
theorem parsedA_yes {res : Option (Anc × List UInt8)} {x : Anc} {r : List UInt8} (h : res = some (x, r)) (y : AV) (X : Option Addr) (n c base : Nat) (w : World) (hn : r.length = n) (hd : y.d = x) (ho : y.Own w base) : ParsedA base res (.returned (.tuple #[y.v, .slice X n c, .int .i64 0])) w := by
  rw [h]
  exact ⟨y, X, c, by rw [hn], hd, ho⟩
theorem unrow_head_no {b : List UInt8} (h : b.length < 17) : unrow [4, 4, 4, 4, 1] b = .error 4 := by rw [unrow_head, if_pos h]
theorem unrow_head_yes {b : List UInt8} (h : ¬ b.length < 17) : unrow [4, 4, 4, 4, 1] b = .ok ([(num (b.take 4) : Int), (num ((b.drop 4).take 4) : Int), (num ((b.drop 8).take 4) : Int), (num ((b.drop 12).take 4) : Int), (num ((b.drop 16).take 1) : Int)], b.drop 17) := by rw [unrow_head, if_neg h]

theorem labR_none {l : List UInt8} {W : World} {e : Ending} {w' : World} (h : LabR l W e w') (hr : readL l = none) : e = .returned (.tuple #[.string ⟨#[]⟩, .int .i64 0, .int .i64 4]) ∧ Below W.heap.size W w' := by
  have := h.1
  rw [hr] at this
  exact ⟨this, h.2⟩
theorem labR_some {l t : List UInt8} {W : World} {e : Ending} {w' : World} (h : LabR l W e w') (hr : readL l = some t) : e = .returned (.tuple #[.string ⟨t.toArray⟩, .int .i64 (1 + (t.length : Int)), .int .i64 0]) ∧ Below W.heap.size W w' := by
  have := h.1
  rw [hr] at this
  exact ⟨this, h.2⟩

end Go.Proofs.YthbjfpgcinmjiaaDoor.anc

namespace Go.Proofs.YthbjfpgcinmjiaaDoor.anc
open Go.RowKit Go.Lib
open Go.Proofs.YthbjfpgcinmjiaaDoor.gmt (Ok five_new check_ok check_no)
open Go.Proofs.YthbjfpgcinmjiaaDoor.pck (num unrow Unrowed)
open Go.Proofs.YthbjfpgcinmjiaaDoor.lbl (encL readL labE)

theorem u8_home : 5 ≠ 44 := by decide
end Go.Proofs.YthbjfpgcinmjiaaDoor.anc

namespace Go.Proofs.YthbjfpgcinmjiaaDoor.anc
open Go.RowKit Go.Lib
open Go.Proofs.YthbjfpgcinmjiaaDoor.gmt (Ok five_new check_ok check_no)
open Go.Proofs.YthbjfpgcinmjiaaDoor.pck (num)
open Go.Proofs.YthbjfpgcinmjiaaDoor.lbl (encL readL labE)

end Go.Proofs.YthbjfpgcinmjiaaDoor.anc
