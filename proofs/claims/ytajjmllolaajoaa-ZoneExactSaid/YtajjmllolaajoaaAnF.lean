/-
  The document's own new anchor. Conditions: a right geometry.
-/
import Derived.Test.YtajjmllolaajoaaGAn
import Derived.Test.YtajjmllolaajoaaGGm
import Derived.Deep.CutRange
namespace Go.Proofs.Ytajjmllolaajoaa.anc
open Go.RowKit Go.Lib
open Go.Proofs.Ytajjmllolaajoaa.gmt (Ok five_new)

/-- Three cells that may be written. -/
structure Tri (W : World) (g : Nat) (a0 a1 a2 : Value) : Prop where
  c0 : W.cell? ⟨g, 0, none⟩ = some a0
  c1 : W.cell? ⟨g, 1, none⟩ = some a1
  c2 : W.cell? ⟨g, 2, none⟩ = some a2
  f0 : W.frozen? ⟨g, 0, none⟩ = false
  f1 : W.frozen? ⟨g, 1, none⟩ = false
  f2 : W.frozen? ⟨g, 2, none⟩ = false
section
variable {W W' : World} {g : Nat} {a0 a1 a2 : Value}
theorem tri_new (w : World) (a0 a1 a2 : Value) (t : TypeId) : Tri (w.alloc (.cells #[a0, a1, a2] t)) w.heap.size a0 a1 a2 := by
  have h := heap_alloc_new w (.cells #[a0, a1, a2] t)
  constructor <;> first | (rw [cell_of_row _ _ _ _ _ _ h]; rfl) | exact World.frozen?_alloc_new _ _ _ _
theorem Tri.keep {B : Nat} (h : Tri W g a0 a1 a2) (hb : Below B W W') (hg : g < B) : Tri W' g a0 a1 a2 :=
  ⟨(hb.cell (p := ⟨g, 0, none⟩) hg).trans h.c0, (hb.cell (p := ⟨g, 1, none⟩) hg).trans h.c1, (hb.cell (p := ⟨g, 2, none⟩) hg).trans h.c2, (hb.frozen (p := ⟨g, 0, none⟩) hg).trans h.f0, (hb.frozen (p := ⟨g, 1, none⟩) hg).trans h.f1, (hb.frozen (p := ⟨g, 2, none⟩) hg).trans h.f2⟩
theorem Tri.set0 (h : Tri W g a0 a1 a2) (v : Value) : Tri (W.setCell ⟨g, 0, none⟩ v) g v a1 a2 := by
  refine ⟨World.cell?_setCell_same _ _ _ h.c0, ?_, ?_, ?_, ?_, ?_⟩
  · rw [World.cell?_setCell_other _ _ _ _ (by simp)]; exact h.c1
  · rw [World.cell?_setCell_other _ _ _ _ (by simp)]; exact h.c2
  · rw [World.frozen?_setCell]; exact h.f0
  · rw [World.frozen?_setCell]; exact h.f1
  · rw [World.frozen?_setCell]; exact h.f2
theorem Tri.set1 (h : Tri W g a0 a1 a2) (v : Value) : Tri (W.setCell ⟨g, 1, none⟩ v) g a0 v a2 := by
  refine ⟨?_, World.cell?_setCell_same _ _ _ h.c1, ?_, ?_, ?_, ?_⟩
  · rw [World.cell?_setCell_other _ _ _ _ (by simp)]; exact h.c0
  · rw [World.cell?_setCell_other _ _ _ _ (by simp)]; exact h.c2
  · rw [World.frozen?_setCell]; exact h.f0
  · rw [World.frozen?_setCell]; exact h.f1
  · rw [World.frozen?_setCell]; exact h.f2
theorem Tri.set2 (h : Tri W g a0 a1 a2) (v : Value) : Tri (W.setCell ⟨g, 2, none⟩ v) g a0 a1 v := by
  refine ⟨?_, ?_, World.cell?_setCell_same _ _ _ h.c2, ?_, ?_, ?_⟩
  · rw [World.cell?_setCell_other _ _ _ _ (by simp)]; exact h.c0
  · rw [World.cell?_setCell_other _ _ _ _ (by simp)]; exact h.c1
  · rw [World.frozen?_setCell]; exact h.f0
  · rw [World.frozen?_setCell]; exact h.f1
  · rw [World.frozen?_setCell]; exact h.f2
end
/-- append of rows of k cells. -/
theorem wpList_row {P : Program} (w : World) {ops : Array Oper} {rest : List Oper} {o : Oper} {a : Act} {Q : Exit → Act → World → Prop} (hgd : o.guard = none) (s x : Operand) (t tx : TypeId)
    (ho : o.op = .call { callee := .builtin .append, args := #[s, x], argTypes := #[t, tx] })
    (base k bytes : Nat) (e : TypeId) (z : Value) (ht : P.underlying t = some (.slice e)) (hi : (P.info? e).map (fun i => (i.zero, i.size, i.bytes)) = some (some z, k, bytes)) (hz : z.cells.size = k)
    (v : Value) (n : Nat) (xs : List Value) (hv : a.eval s = v) (hown : w.ownsRow base e k v n xs) (u : Value) (m : Nat) (news : List Value) (hu : a.eval x = u) (hs : Src P k tx u m news w)
    (h63 : n + m ≤ maxLen) (hlen : (n + m) * bytes ≤ 140737488355328) (hbase : base ≤ w.heap.size)
    (h : ∀ v' w', w'.ownsRow base e k v' (n + m) (xs ++ news) → w.grownBy w' v.ownBlock → wpList P ops Q rest (a.put o.dst v') w') : wpList P ops Q (o :: rest) a w :=
  wpList_plain hgd fun _ hK => by
    cases hi' : P.info? e with
    | none => rw [hi'] at hi; cases hi
    | some i =>
      rw [hi'] at hi
      simp only [Option.map_some, Option.some.injEq, Prod.mk.injEq] at hi
      obtain ⟨v', w', hrun, h2, h3, h4⟩ := run_app (P := P) w base t tx o.type e i z k bytes ht hi' hi.1 hi.2.1 hi.2.2 hz v n xs hown u m news hs h63 hlen hbase
      have hK' := hK _ _ (h v' w' h2 h3)
      unfold Oper.wp execOp
      simp only [ho, resolve, invoke, builtin, Sem.run_bind, Sem.run_pure, Result.andThen_ok, List.map_toArray, List.map_cons, List.map_nil, hv, hu, hrun]
      exact hK'

/-- 0, 1, and so on. -/
def upto (q : Nat) : List Int := (List.range q).map Int.ofNat
theorem upto_length (q : Nat) : (upto q).length = q := by simp [upto]
theorem upto_next (q : Nat) : ints (upto q) ++ [.int .i64 (q : Int)] = ints (upto (q + 1)) := by simp [upto, ints, List.range_succ]
/-- A new home of d blocks; a new anchor. -/
def newH (d : Int) : Hom := ⟨upto (d.toNat + 1), d + 1, 0⟩
def firstA (z d : Int) (lab : ByteArray) : Anc := ⟨1, 0, 0, 1, 0, lab, List.replicate z.toNat (newH d)⟩

end Go.Proofs.Ytajjmllolaajoaa.anc
