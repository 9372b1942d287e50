/-
  casematekeep.Anchor: are two anchors the same? Conditions: rows shorter than 2^20.
-/
import Derived.Test.YtldknkikekaifaaAnQ
import Derived.Test.YtldknkikekaifaaAnV
import Derived.Laws.Strings
import Derived.WideShapes
namespace Go.Proofs.Ytldknkikekaifaa.anc
open Go.RowKit Go.Lib

/-- An anchor's seven cells, at block g. -/
structure AC (W : World) (g : Nat) (x : AV) : Prop where
  c0 : W.cell? ⟨g, 0, none⟩ = some (.int .i64 x.gen)
  c1 : W.cell? ⟨g, 1, none⟩ = some (.int .i64 x.ep)
  c2 : W.cell? ⟨g, 2, none⟩ = some (.int .i64 x.pos)
  c3 : W.cell? ⟨g, 3, none⟩ = some (.int .i64 x.seq)
  c4 : W.cell? ⟨g, 4, none⟩ = some (.int .i64 x.last)
  c5 : W.cell? ⟨g, 5, none⟩ = some (.string x.lab)
  c6 : W.cell? ⟨g, 6, none⟩ = some (.slice x.HA x.hs.length x.hc)
theorem AC.keep {W W' : World} {g B : Nat} {x : AV} (h : AC W g x) (hb : Below B W W') (hg : g < B) : AC W' g x := by
  have k := fun (o : Nat) => hb.cell (p := ⟨g, o, none⟩) hg
  exact ⟨(k 0).trans h.c0, (k 1).trans h.c1, (k 2).trans h.c2, (k 3).trans h.c3, (k 4).trans h.c4, (k 5).trans h.c5, (k 6).trans h.c6⟩
theorem lab_inj {a b : ByteArray} (h : a.toList = b.toList) : a = b := by
  rw [ByteArray.toList_eq, ByteArray.toList_eq] at h
  exact Go.WideShapes.bytes_inj h

end Go.Proofs.Ytldknkikekaifaa.anc
