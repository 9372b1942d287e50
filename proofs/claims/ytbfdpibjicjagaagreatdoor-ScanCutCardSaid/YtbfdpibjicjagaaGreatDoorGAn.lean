/-
  casematekeep.Ints once more: it changes nothing in memory (it draws). Conditions: rows shorter than 2^20.
  Anchors: as plain data, and as they lie in memory (a row of homes of three values each, a home's places a row of integers). Conditions: each law's own.
  casematekeep.Anchor: are two anchors the same? Conditions: rows shorter than 2^20.
  Seven cells of a block of one's own (an anchor as a variable); homes of one's own. Conditions: none.
-/
import Derived.Test.YtbfdpibjicjagaaGreatDoorKeepInts
import Derived.Deep.QuietTactic
import Derived.BigQuiet
import Derived.Laws.Strings
import Derived.WideShapes
set_option maxRecDepth 100000
namespace Go.Proofs.YtbfdpibjicjagaaGreatDoor
open Go.RowKit Go.Lib
end Go.Proofs.YtbfdpibjicjagaaGreatDoor
namespace Go.Proofs.YtbfdpibjicjagaaGreatDoor.anc
open Go.RowKit Go.Lib
structure Hom where
  ps : List Int
  nx : Int
  rt : Int
structure Anc where
  gen : Int
  ep : Int
  pos : Int
  seq : Int
  last : Int
  lab : ByteArray
  hs : List Hom
instance : DecidableEq Hom := fun a b => decidable_of_iff (a.ps = b.ps ∧ a.nx = b.nx ∧ a.rt = b.rt) ⟨fun ⟨h1, h2, h3⟩ => by cases a; cases b; simp_all, fun h => by rw [h]; exact ⟨rfl, rfl, rfl⟩⟩
instance : DecidableEq Anc := fun a b => decidable_of_iff (a.gen = b.gen ∧ a.ep = b.ep ∧ a.pos = b.pos ∧ a.seq = b.seq ∧ a.last = b.last ∧ a.lab = b.lab ∧ a.hs = b.hs)
  ⟨fun ⟨h1, h2, h3, h4, h5, h6, h7⟩ => by cases a; cases b; simp_all, fun h => by rw [h]; exact ⟨rfl, rfl, rfl, rfl, rfl, rfl, rfl⟩⟩
theorem flat_get {α β : Type} (f : α → List β) (k : Nat) (hk : ∀ x, (f x).length = k) : ∀ (l : List α) (i j : Nat), j < k → (l.flatMap f)[i * k + j]? = l[i]?.bind fun x => (f x)[j]?
  | [], i, j, _ => by simp
  | x :: l, 0, j, hj => by
    rw [List.flatMap_cons, Nat.zero_mul, Nat.zero_add, List.getElem?_append_left (by rw [hk]; exact hj)]
    rfl
  | x :: l, i + 1, j, hj => by
    rw [List.flatMap_cons, List.getElem?_append_right (by rw [hk, Nat.succ_mul]; omega), hk, show (i + 1) * k + j - k = i * k + j by rw [Nat.succ_mul]; omega, flat_get f k hk l i j hj]
    rfl
theorem flat_len {α β : Type} (f : α → List β) (k : Nat) (hk : ∀ x, (f x).length = k) (l : List α) : (l.flatMap f).length = l.length * k := by
  induction l with
  | nil => simp
  | cons x l ih => rw [List.flatMap_cons, List.length_append, hk, ih, List.length_cons, Nat.succ_mul]; omega
theorem slv_cell {w : World} {B b off i : Nat} {vs : List Value} {v : Value} (h : SlV w B (some ⟨b, off, none⟩) vs) (hi : vs[i]? = some v) : w.cell? ⟨b, off + i, none⟩ = some v ∧ b < B := by
  obtain ⟨hj, rfl⟩ := List.getElem?_eq_some_iff.1 hi
  obtain ⟨b', off', he, hb, hc⟩ := h (by omega)
  simp only [Option.some.injEq, Addr.mk.injEq, and_true] at he
  obtain ⟨rfl, rfl⟩ := he
  exact ⟨hc i hj, hb⟩
theorem take_same {α : Type} {a b : List α} {k : Nat} {x y : α} (h : a.take k = b.take k) (ha : a[k]? = some x) (hb : b[k]? = some y) (hxy : x = y) : a.take (k + 1) = b.take (k + 1) := by
  rw [take_next ha, take_next hb, h, hxy]
theorem take_other {α : Type} {a b : List α} {k : Nat} {x y : α} (ha : a[k]? = some x) (hb : b[k]? = some y) (hxy : x ≠ y) : a ≠ b := fun e => hxy (by rw [e, hb] at ha; exact (Option.some.inj ha).symm)
theorem kal {a W : World} (h : Below a.heap.size a W) (o : Obj) : Below a.heap.size a (W.alloc o) := h.alloc h.size o
theorem bl (w : World) (o : Obj) : Below w.heap.size w (w.alloc o) := (Below.refl _ _).alloc (Nat.le_refl _) o
theorem kst {a W : World} (h : Below a.heap.size a W) {b o : Nat} {v : Value} (hb : b < a.heap.size) (hv : a.cell? ⟨b, o, none⟩ = some v) : W.cell? ⟨b, o, none⟩ = some v := (h.cell (p := ⟨b, o, none⟩) hb).trans hv
structure HomR where
  A : Option Addr
  c : Nat
  ps : List Int
  nx : Int
  rt : Int
def HomR.vs (r : HomR) : List Value := [.slice r.A r.ps.length r.c, .int .i64 r.nx, .int .i64 r.rt]
def HomR.d (r : HomR) : Hom := ⟨r.ps, r.nx, r.rt⟩
def hvs (rs : List HomR) : List Value := rs.flatMap HomR.vs
def hds (rs : List HomR) : List Hom := rs.map HomR.d
theorem hvs_length (rs : List HomR) : (hvs rs).length = rs.length * 3 := flat_len HomR.vs 3 (fun _ => rfl) rs
theorem hds_length (rs : List HomR) : (hds rs).length = rs.length := by simp [hds]
theorem hvs_append (a b : List HomR) : hvs (a ++ b) = hvs a ++ hvs b := by simp [hvs]
theorem hds_append (a b : List HomR) : hds (a ++ b) = hds a ++ hds b := by simp [hds]
def PIn (w : World) (B : Nat) (r : HomR) : Prop := SlV w B r.A (ints r.ps) ∧ r.ps.length ≤ r.c ∧ r.c ≤ maxLen
def HIn (w : World) (B : Nat) (rs : List HomR) : Prop := ∀ r ∈ rs, PIn w B r
def HShort (n : Nat) (rs : List HomR) : Prop := ∀ r ∈ rs, r.ps.length ≤ n
section
variable {w w' : World} {B B' : Nat} {r : HomR} {rs : List HomR}
theorem PIn.below (h : PIn w B r) (hb : Below B w w') : PIn w' B r := ⟨h.1.below hb, h.2⟩
theorem PIn.more (h : PIn w B r) (hB : B ≤ B') : PIn w B' r := ⟨h.1.more hB, h.2⟩
theorem PIn.next (h : PIn w w.heap.size r) (hb : Below w.heap.size w w') : PIn w' w'.heap.size r := (h.below hb).more hb.size
theorem HIn.below (h : HIn w B rs) (hb : Below B w w') : HIn w' B rs := fun r hr => (h r hr).below hb
theorem HIn.more (h : HIn w B rs) (hB : B ≤ B') : HIn w B' rs := fun r hr => (h r hr).more hB
theorem HIn.next (h : HIn w w.heap.size rs) (hb : Below w.heap.size w w') : HIn w' w'.heap.size rs := (h.below hb).more hb.size
theorem HIn.append {a b : List HomR} (h : HIn w B a) (k : HIn w B b) : HIn w B (a ++ b) := fun r hr => (List.mem_append.1 hr).elim (h r) (k r)
theorem HIn.nil (w : World) (B : Nat) : HIn w B [] := fun r hr => by cases hr
end
theorem home_at {w : World} {B k : Nat} {A : Option Addr} {rs : List HomR} (hA : SlV w B A (hvs rs)) (hR : HIn w B rs) (hk : k < rs.length) :
    ∃ b off r, A = some ⟨b, off, none⟩ ∧ b < B ∧ w.cell? ⟨b, off + k * 3, none⟩ = some (.slice r.A r.ps.length r.c) ∧ w.cell? ⟨b, off + k * 3 + 1, none⟩ = some (.int .i64 r.nx) ∧ w.cell? ⟨b, off + k * 3 + 2, none⟩ = some (.int .i64 r.rt) ∧
      PIn w B r ∧ r ∈ rs ∧ rs[k]? = some r ∧ (hds rs)[k]? = some r.d := by
  obtain ⟨b, off, rfl, -, -⟩ := hA (by rw [hvs_length]; omega)
  have g := fun j (hj : j < 3) => flat_get HomR.vs 3 (fun _ => rfl) rs k j hj
  rw [List.getElem?_eq_getElem hk] at g
  have c0 := slv_cell hA (i := k * 3 + 0) (v := .slice rs[k].A rs[k].ps.length rs[k].c) ((g 0 (by omega)).trans rfl)
  have c1 := slv_cell hA (i := k * 3 + 1) (v := .int .i64 rs[k].nx) ((g 1 (by omega)).trans rfl)
  have c2 := slv_cell hA (i := k * 3 + 2) (v := .int .i64 rs[k].rt) ((g 2 (by omega)).trans rfl)
  have hm := List.getElem_mem hk
  exact ⟨b, off, rs[k], rfl, c0.2, c0.1, c1.1, c2.1, hR _ hm, hm, List.getElem?_eq_getElem hk, by simp [hds, hk]⟩
structure AV where
  gen : Int
  ep : Int
  pos : Int
  seq : Int
  last : Int
  lab : ByteArray
  HA : Option Addr
  hc : Nat
  hs : List HomR
def AV.v (a : AV) : Value := .agg #[.int .i64 a.gen, .int .i64 a.ep, .int .i64 a.pos, .int .i64 a.seq, .int .i64 a.last, .string a.lab, .slice a.HA a.hs.length a.hc]
def AV.d (a : AV) : Anc := ⟨a.gen, a.ep, a.pos, a.seq, a.last, a.lab, hds a.hs⟩
structure AV.In (w : World) (B : Nat) (a : AV) : Prop where
  hh : SlV w B a.HA (hvs a.hs)
  hi : HIn w B a.hs
  hl : a.hs.length ≤ a.hc ∧ a.hc ≤ maxLen
section
variable {w w' : World} {B B' : Nat} {a : AV}
theorem AV.In.below (h : AV.In w B a) (hb : Below B w w') : AV.In w' B a := ⟨h.hh.below hb, h.hi.below hb, h.hl⟩
theorem AV.In.more (h : AV.In w B a) (hB : B ≤ B') : AV.In w B' a := ⟨h.hh.more hB, h.hi.more hB, h.hl⟩
theorem AV.In.next (h : AV.In w w.heap.size a) (hb : Below w.heap.size w w') : AV.In w' w'.heap.size a := (h.below hb).more hb.size
end
end Go.Proofs.YtbfdpibjicjagaaGreatDoor.anc
namespace Go.Proofs.YtbfdpibjicjagaaGreatDoor.anc
open Go.RowKit Go.Lib
structure AC (W : World) (g : Nat) (x : AV) : Prop where
  c0 : W.cell? ⟨g, 0, none⟩ = some (.int .i64 x.gen)
  c1 : W.cell? ⟨g, 1, none⟩ = some (.int .i64 x.ep)
  c2 : W.cell? ⟨g, 2, none⟩ = some (.int .i64 x.pos)
  c3 : W.cell? ⟨g, 3, none⟩ = some (.int .i64 x.seq)
  c4 : W.cell? ⟨g, 4, none⟩ = some (.int .i64 x.last)
  c5 : W.cell? ⟨g, 5, none⟩ = some (.string x.lab)
  c6 : W.cell? ⟨g, 6, none⟩ = some (.slice x.HA x.hs.length x.hc)
theorem AC.keep {W W' : World} {g B : Nat} {x : AV} (h : AC W g x) (hb : Below B W W') (hg : g < B) : AC W' g x := by
  have k := fun (o : Nat) => hb.cell (p := ⟨g, o, none⟩) hg
  exact ⟨(k 0).trans h.c0, (k 1).trans h.c1, (k 2).trans h.c2, (k 3).trans h.c3, (k 4).trans h.c4, (k 5).trans h.c5, (k 6).trans h.c6⟩
theorem ac_new (w : World) (x : AV) : AC (w.alloc (.cells #[.int .i64 x.gen, .int .i64 x.ep, .int .i64 x.pos, .int .i64 x.seq, .int .i64 x.last, .string x.lab, .slice x.HA x.hs.length x.hc] 26)) w.heap.size x := by
  constructor <;> (rw [cell_of_row _ _ _ _ _ _ (heap_alloc_new w _)]; rfl)
end Go.Proofs.YtbfdpibjicjagaaGreatDoor.anc
namespace Go.Proofs.YtbfdpibjicjagaaGreatDoor.anc
open Go.RowKit Go.Lib
theorem ks {B b o : Nat} {a W : World} {v : Value} (h : Below B a W) (hb : b < B) (hv : a.cell? ⟨b, o, none⟩ = some v) : W.cell? ⟨b, o, none⟩ = some v := (h.cell (p := ⟨b, o, none⟩) hb).trans hv
theorem bm {B : Nat} {a b c : World} (h : Below B a b) (hB : B ≤ a.heap.size) (k : Below b.heap.size b c) : Below B a c := h.trans (k.mono (Nat.le_trans hB h.size))
theorem ka {B : Nat} {a W : World} (h : Below B a W) (hB : B ≤ a.heap.size) (o : Obj) : Below B a (W.alloc o) := h.alloc (Nat.le_trans hB h.size) o
theorem row_apart {w : World} {base base' k k' n n' : Nat} {e e' : TypeId} {v v' : Value} {xs xs' : List Value} (h : w.ownsRow base e k v n xs) (h' : w.ownsRow base' e' k' v' n' xs') (he : e ≠ e') : v.ownBlock = none ∨ v.ownBlock ≠ v'.ownBlock := by
  rcases h.2 with ⟨rfl, _⟩ | ⟨g, cap, cur, rfl, _, hg, _⟩
  · exact .inl rfl
  · right
    rcases h'.2 with ⟨rfl, _⟩ | ⟨g', cap', cur', rfl, _, hg', _⟩
    · simp [Value.ownBlock]
    · intro hh
      simp only [Value.ownBlock, Option.some.injEq] at hh
      subst hh
      rw [hg] at hg'
      simp only [Option.some.injEq, Obj.cells.injEq] at hg'
      exact he hg'.2.1
theorem row_form {w : World} {base k n : Nat} {e : TypeId} {v : Value} {xs : List Value} (h : w.ownsRow base e k v n xs) : ∃ A c, v = .slice A n c ∧ n ≤ c ∧ c ≤ maxLen ∧ SlV w w.heap.size A xs := by
  have h' := h
  rcases h.2 with ⟨rfl, hn⟩ | ⟨g, cap, cur, rfl, hb, hg, hc, hm, _, _⟩
  · refine ⟨none, 0, by rw [hn], by omega, Nat.zero_le _, fun hl => ?_⟩
    have := h.1
    rw [hn] at this
    omega
  · refine ⟨some ⟨g, 0, none⟩, cap, rfl, hc, hm, fun hl => ⟨g, 0, rfl, ?_, fun j hj => ?_⟩⟩
    · rcases Nat.lt_or_ge g w.heap.size with k | k
      · exact k
      · rw [Array.getElem?_eq_none k] at hg; cases hg
    · have := World.ownsRow.cells h' (g := g) rfl j xs[j] (by simp [hj])
      rwa [Addr.add_lit] at this
theorem row_below {w w' : World} {base k n : Nat} {e : TypeId} {v : Value} {xs : List Value} (h : w.ownsRow base e k v n xs) (hb : Below w.heap.size w w') : w'.ownsRow base e k v n xs := by
  refine World.ownsRow.kept (row := none) h ⟨hb.os, hb.tape, hb.output, hb.size, fun k hk _ => hb.block k hk⟩ ?_
  rcases h.2 with ⟨rfl, _⟩ | ⟨g, _, _, rfl, _⟩
  · exact .inl rfl
  · exact .inr (by simp [Value.ownBlock])
theorem step_row {P : Program} (w : World) {ops : Array Oper} {o : Oper} {a : Act} {K : Act → World → Prop} {Q : Exit → Act → World → Prop} {E : Prop} (hgd : o.guard = none) (s x : Operand) (t tx : TypeId)
    (ho : o.op = .call { callee := .builtin .append, args := #[s, x], argTypes := #[t, tx] })
    (base k bytes : Nat) (e : TypeId) (z : Value) (ht : P.underlying t = some (.slice e)) (hi : (P.info? e).map (fun i => (i.zero, i.size, i.bytes)) = some (some z, k, bytes)) (hz : z.cells.size = k)
    (v : Value) (n : Nat) (xs : List Value) (hv : a.eval s = v) (hown : w.ownsRow base e k v n xs) (u : Value) (m : Nat) (news : List Value) (hu : a.eval x = u) (hs : Src P k tx u m news w)
    (h63 : n + m ≤ maxLen) (hlen : (n + m) * bytes ≤ 140737488355328) (hbase : base ≤ w.heap.size)
    (h : ∀ v' w', w'.ownsRow base e k v' (n + m) (xs ++ news) → w.grownBy w' v.ownBlock → K (a.put o.dst v') w') :
    if Region.wanted o (yielded ops a.tmps) = true then Oper.wp P o a w K Q else E := by
  have hw : Region.wanted o (yielded ops a.tmps) = true := by simp [Region.wanted, hgd]
  rw [if_pos hw]
  cases hi' : P.info? e with
  | none => rw [hi'] at hi; cases hi
  | some i =>
    rw [hi'] at hi
    simp only [Option.map_some, Option.some.injEq, Prod.mk.injEq] at hi
    obtain ⟨v', w', hrun, h2, h3, h4⟩ := run_app (P := P) w base t tx o.type e i z k bytes ht hi' hi.1 hi.2.1 hi.2.2 hz v n xs hown u m news hs h63 hlen hbase
    have hK' := h v' w' h2 h3
    unfold Oper.wp execOp
    simp only [ho, resolve, invoke, builtin, Sem.run_bind, Sem.run_pure, Result.andThen_ok, List.map_toArray, List.map_cons, List.map_nil, hv, hu, hrun]
    exact hK'
theorem src_home {P : Program} {w : World} {g : Nat} {t tx e' : TypeId} {a b c : Value} (hg : w.heap[g]? = some (.cells #[a, b, c] t)) (hk : P.underlying tx = some (.slice e')) (h1 : ∀ u ∈ [a, b, c], u.oneCell' = true) : Src P 3 tx (.slice (some ⟨g, 0, none⟩) 1 1) 1 [a, b, c] w := by
  refine Src.ofSlice w hk ⟨g, 0, none⟩ 1 1 [a, b, c] rfl (fun j u hu => ?_) h1
  rw [Addr.add_lit, cell_of_row w g (0 + j) _ t _ hg, Nat.zero_add, ← Array.getElem?_toList]
  exact hu
def OwnH (w : World) (base : Nat) (v : Value) (rs : List HomR) : Prop :=
  w.ownsRow base 69 3 v rs.length (hvs rs) ∧ ∀ r ∈ rs, OwnV w base 3 (.slice r.A r.ps.length r.c) (ints r.ps)
theorem int_home : 3 ≠ 69 := by decide
section
variable {w w' : World} {base : Nat} {v v' : Value} {hs : List HomR}
theorem ownH_nil (w : World) (base : Nat) : OwnH w base (.slice none 0 0) [] := ⟨World.ownsRow_nil w base _ 3, fun r hr => by cases hr⟩
theorem OwnH.below (h : OwnH w base v hs) (hb : Below w.heap.size w w') : OwnH w' base v hs := ⟨row_below h.1 hb, fun r hr => (h.2 r hr).below hb⟩
theorem OwnH.less {base' : Nat} (h : OwnH w base v hs) (hb : base' ≤ base) : OwnH w base' v hs := by
  refine ⟨⟨h.1.1, ?_⟩, fun r hr => (h.2 r hr).less hb⟩
  rcases h.1.2 with k | ⟨g, cap, cur, a, b, c⟩
  · exact .inl k
  · exact .inr ⟨g, cap, cur, a, by omega, c⟩
theorem OwnH.more {r : HomR} (h : OwnH w base v hs) (hg : w.grownBy w' v.ownBlock) (hp : OwnV w base 3 (.slice r.A r.ps.length r.c) (ints r.ps)) (h' : w'.ownsRow base 69 3 v' (hs.length + 1) (hvs hs ++ r.vs)) : OwnH w' base v' (hs ++ [r]) := by
  have hk : ∀ {q : HomR}, OwnV w base 3 (.slice q.A q.ps.length q.c) (ints q.ps) → OwnV w' base 3 (.slice q.A q.ps.length q.c) (ints q.ps) := fun hq => hq.kept hg (row_apart hq h.1 int_home)
  refine ⟨?_, fun x hx => ?_⟩
  · rw [List.length_append, hvs_append, show hvs [r] = r.vs by simp [hvs]]
    exact h'
  · rcases List.mem_append.1 hx with k | k
    · exact hk (h.2 x k)
    · obtain rfl : x = r := List.mem_singleton.1 k
      exact hk hp
end
theorem OwnH.cell_set {w : World} {base g o : Nat} {v : Value} {cs : List HomR} (h : OwnH w base v cs) (hg : g < base) (x : Value) : OwnH (w.setCell ⟨g, o, none⟩ x) base v cs := by
  have hne : ∀ {e : TypeId} {u : Value} {k n : Nat} {xs : List Value}, w.ownsRow base e k u n xs → u.ownBlock ≠ some g := fun hu k => by have := (World.ownsRow.lt hu g k).1; omega
  exact ⟨ownsRow_setCell_other h.1 (hne h.1) x, fun r hr => ownsRow_setCell_other (h.2 r hr) (hne (h.2 r hr)) x⟩
theorem own_pin {w : World} {base : Nat} {e : TypeId} {r : HomR} (h : OwnV w base e (.slice r.A r.ps.length r.c) (ints r.ps)) : PIn w w.heap.size r := by
  obtain ⟨A, c, hv, h1, h2, hs, _⟩ := h.form
  simp only [Value.slice.injEq] at hv
  obtain ⟨ha, hl, hc⟩ := hv
  rw [ints_length] at h1
  exact ⟨by rw [ha]; exact hs, by omega, by omega⟩
theorem ownH_in {w : World} {base c : Nat} {A : Option Addr} {rs : List HomR} (h : OwnH w base (.slice A rs.length c) rs) : SlV w w.heap.size A (hvs rs) ∧ HIn w w.heap.size rs ∧ rs.length ≤ c ∧ c ≤ maxLen := by
  obtain ⟨A', c', hv, h1, h2, hs⟩ := row_form h.1
  simp only [Value.slice.injEq] at hv
  obtain ⟨rfl, -, rfl⟩ := hv
  exact ⟨hs, fun r hr => own_pin (h.2 r hr), h1, h2⟩
theorem h_info : (Tryz.prog.info? 69).map (fun i => (i.zero, i.size, i.bytes)) = some (some (.agg #[.slice none 0 0, .int .i64 0, .int .i64 0]), 3, 40) := by kernel_rfl
structure Sev (W : World) (g : Nat) (a0 a1 a2 a3 a4 a5 a6 : Value) : Prop where
  c0 : W.cell? ⟨g, 0, none⟩ = some a0
  c1 : W.cell? ⟨g, 1, none⟩ = some a1
  c2 : W.cell? ⟨g, 2, none⟩ = some a2
  c3 : W.cell? ⟨g, 3, none⟩ = some a3
  c4 : W.cell? ⟨g, 4, none⟩ = some a4
  c5 : W.cell? ⟨g, 5, none⟩ = some a5
  c6 : W.cell? ⟨g, 6, none⟩ = some a6
  f0 : W.frozen? ⟨g, 0, none⟩ = false
  f1 : W.frozen? ⟨g, 1, none⟩ = false
  f2 : W.frozen? ⟨g, 2, none⟩ = false
  f3 : W.frozen? ⟨g, 3, none⟩ = false
  f4 : W.frozen? ⟨g, 4, none⟩ = false
  f5 : W.frozen? ⟨g, 5, none⟩ = false
  f6 : W.frozen? ⟨g, 6, none⟩ = false
section
variable {W W' : World} {g : Nat} {a0 a1 a2 a3 a4 a5 a6 : Value}
theorem sev_new (w : World) (a0 a1 a2 a3 a4 a5 a6 : Value) (t : TypeId) : Sev (w.alloc (.cells #[a0, a1, a2, a3, a4, a5, a6] t)) w.heap.size a0 a1 a2 a3 a4 a5 a6 := by
  have h := heap_alloc_new w (.cells #[a0, a1, a2, a3, a4, a5, a6] t)
  constructor <;> first | (rw [cell_of_row _ _ _ _ _ _ h]; rfl) | exact World.frozen?_alloc_new _ _ _ _
theorem Sev.keep {B : Nat} (h : Sev W g a0 a1 a2 a3 a4 a5 a6) (hb : Below B W W') (hg : g < B) : Sev W' g a0 a1 a2 a3 a4 a5 a6 :=
  ⟨(hb.cell (p := ⟨g, 0, none⟩) hg).trans h.c0, (hb.cell (p := ⟨g, 1, none⟩) hg).trans h.c1, (hb.cell (p := ⟨g, 2, none⟩) hg).trans h.c2, (hb.cell (p := ⟨g, 3, none⟩) hg).trans h.c3, (hb.cell (p := ⟨g, 4, none⟩) hg).trans h.c4, (hb.cell (p := ⟨g, 5, none⟩) hg).trans h.c5, (hb.cell (p := ⟨g, 6, none⟩) hg).trans h.c6,
   (hb.frozen (p := ⟨g, 0, none⟩) hg).trans h.f0, (hb.frozen (p := ⟨g, 1, none⟩) hg).trans h.f1, (hb.frozen (p := ⟨g, 2, none⟩) hg).trans h.f2, (hb.frozen (p := ⟨g, 3, none⟩) hg).trans h.f3, (hb.frozen (p := ⟨g, 4, none⟩) hg).trans h.f4, (hb.frozen (p := ⟨g, 5, none⟩) hg).trans h.f5, (hb.frozen (p := ⟨g, 6, none⟩) hg).trans h.f6⟩
theorem Sev.set0 (h : Sev W g a0 a1 a2 a3 a4 a5 a6) (v : Value) : Sev (W.setCell ⟨g, 0, none⟩ v) g v a1 a2 a3 a4 a5 a6 := by
  refine ⟨World.cell?_setCell_same _ _ _ h.c0, ?_, ?_, ?_, ?_, ?_, ?_, ?_, ?_, ?_, ?_, ?_, ?_, ?_⟩
  · rw [World.cell?_setCell_other _ _ _ _ (by simp)]; exact h.c1
  · rw [World.cell?_setCell_other _ _ _ _ (by simp)]; exact h.c2
  · rw [World.cell?_setCell_other _ _ _ _ (by simp)]; exact h.c3
  · rw [World.cell?_setCell_other _ _ _ _ (by simp)]; exact h.c4
  · rw [World.cell?_setCell_other _ _ _ _ (by simp)]; exact h.c5
  · rw [World.cell?_setCell_other _ _ _ _ (by simp)]; exact h.c6
  · rw [World.frozen?_setCell]; exact h.f0
  · rw [World.frozen?_setCell]; exact h.f1
  · rw [World.frozen?_setCell]; exact h.f2
  · rw [World.frozen?_setCell]; exact h.f3
  · rw [World.frozen?_setCell]; exact h.f4
  · rw [World.frozen?_setCell]; exact h.f5
  · rw [World.frozen?_setCell]; exact h.f6
theorem Sev.set1 (h : Sev W g a0 a1 a2 a3 a4 a5 a6) (v : Value) : Sev (W.setCell ⟨g, 1, none⟩ v) g a0 v a2 a3 a4 a5 a6 := by
  refine ⟨?_, World.cell?_setCell_same _ _ _ h.c1, ?_, ?_, ?_, ?_, ?_, ?_, ?_, ?_, ?_, ?_, ?_, ?_⟩
  · rw [World.cell?_setCell_other _ _ _ _ (by simp)]; exact h.c0
  · rw [World.cell?_setCell_other _ _ _ _ (by simp)]; exact h.c2
  · rw [World.cell?_setCell_other _ _ _ _ (by simp)]; exact h.c3
  · rw [World.cell?_setCell_other _ _ _ _ (by simp)]; exact h.c4
  · rw [World.cell?_setCell_other _ _ _ _ (by simp)]; exact h.c5
  · rw [World.cell?_setCell_other _ _ _ _ (by simp)]; exact h.c6
  · rw [World.frozen?_setCell]; exact h.f0
  · rw [World.frozen?_setCell]; exact h.f1
  · rw [World.frozen?_setCell]; exact h.f2
  · rw [World.frozen?_setCell]; exact h.f3
  · rw [World.frozen?_setCell]; exact h.f4
  · rw [World.frozen?_setCell]; exact h.f5
  · rw [World.frozen?_setCell]; exact h.f6
theorem Sev.set2 (h : Sev W g a0 a1 a2 a3 a4 a5 a6) (v : Value) : Sev (W.setCell ⟨g, 2, none⟩ v) g a0 a1 v a3 a4 a5 a6 := by
  refine ⟨?_, ?_, World.cell?_setCell_same _ _ _ h.c2, ?_, ?_, ?_, ?_, ?_, ?_, ?_, ?_, ?_, ?_, ?_⟩
  · rw [World.cell?_setCell_other _ _ _ _ (by simp)]; exact h.c0
  · rw [World.cell?_setCell_other _ _ _ _ (by simp)]; exact h.c1
  · rw [World.cell?_setCell_other _ _ _ _ (by simp)]; exact h.c3
  · rw [World.cell?_setCell_other _ _ _ _ (by simp)]; exact h.c4
  · rw [World.cell?_setCell_other _ _ _ _ (by simp)]; exact h.c5
  · rw [World.cell?_setCell_other _ _ _ _ (by simp)]; exact h.c6
  · rw [World.frozen?_setCell]; exact h.f0
  · rw [World.frozen?_setCell]; exact h.f1
  · rw [World.frozen?_setCell]; exact h.f2
  · rw [World.frozen?_setCell]; exact h.f3
  · rw [World.frozen?_setCell]; exact h.f4
  · rw [World.frozen?_setCell]; exact h.f5
  · rw [World.frozen?_setCell]; exact h.f6
theorem Sev.set3 (h : Sev W g a0 a1 a2 a3 a4 a5 a6) (v : Value) : Sev (W.setCell ⟨g, 3, none⟩ v) g a0 a1 a2 v a4 a5 a6 := by
  refine ⟨?_, ?_, ?_, World.cell?_setCell_same _ _ _ h.c3, ?_, ?_, ?_, ?_, ?_, ?_, ?_, ?_, ?_, ?_⟩
  · rw [World.cell?_setCell_other _ _ _ _ (by simp)]; exact h.c0
  · rw [World.cell?_setCell_other _ _ _ _ (by simp)]; exact h.c1
  · rw [World.cell?_setCell_other _ _ _ _ (by simp)]; exact h.c2
  · rw [World.cell?_setCell_other _ _ _ _ (by simp)]; exact h.c4
  · rw [World.cell?_setCell_other _ _ _ _ (by simp)]; exact h.c5
  · rw [World.cell?_setCell_other _ _ _ _ (by simp)]; exact h.c6
  · rw [World.frozen?_setCell]; exact h.f0
  · rw [World.frozen?_setCell]; exact h.f1
  · rw [World.frozen?_setCell]; exact h.f2
  · rw [World.frozen?_setCell]; exact h.f3
  · rw [World.frozen?_setCell]; exact h.f4
  · rw [World.frozen?_setCell]; exact h.f5
  · rw [World.frozen?_setCell]; exact h.f6
theorem Sev.set4 (h : Sev W g a0 a1 a2 a3 a4 a5 a6) (v : Value) : Sev (W.setCell ⟨g, 4, none⟩ v) g a0 a1 a2 a3 v a5 a6 := by
  refine ⟨?_, ?_, ?_, ?_, World.cell?_setCell_same _ _ _ h.c4, ?_, ?_, ?_, ?_, ?_, ?_, ?_, ?_, ?_⟩
  · rw [World.cell?_setCell_other _ _ _ _ (by simp)]; exact h.c0
  · rw [World.cell?_setCell_other _ _ _ _ (by simp)]; exact h.c1
  · rw [World.cell?_setCell_other _ _ _ _ (by simp)]; exact h.c2
  · rw [World.cell?_setCell_other _ _ _ _ (by simp)]; exact h.c3
  · rw [World.cell?_setCell_other _ _ _ _ (by simp)]; exact h.c5
  · rw [World.cell?_setCell_other _ _ _ _ (by simp)]; exact h.c6
  · rw [World.frozen?_setCell]; exact h.f0
  · rw [World.frozen?_setCell]; exact h.f1
  · rw [World.frozen?_setCell]; exact h.f2
  · rw [World.frozen?_setCell]; exact h.f3
  · rw [World.frozen?_setCell]; exact h.f4
  · rw [World.frozen?_setCell]; exact h.f5
  · rw [World.frozen?_setCell]; exact h.f6
theorem Sev.set5 (h : Sev W g a0 a1 a2 a3 a4 a5 a6) (v : Value) : Sev (W.setCell ⟨g, 5, none⟩ v) g a0 a1 a2 a3 a4 v a6 := by
  refine ⟨?_, ?_, ?_, ?_, ?_, World.cell?_setCell_same _ _ _ h.c5, ?_, ?_, ?_, ?_, ?_, ?_, ?_, ?_⟩
  · rw [World.cell?_setCell_other _ _ _ _ (by simp)]; exact h.c0
  · rw [World.cell?_setCell_other _ _ _ _ (by simp)]; exact h.c1
  · rw [World.cell?_setCell_other _ _ _ _ (by simp)]; exact h.c2
  · rw [World.cell?_setCell_other _ _ _ _ (by simp)]; exact h.c3
  · rw [World.cell?_setCell_other _ _ _ _ (by simp)]; exact h.c4
  · rw [World.cell?_setCell_other _ _ _ _ (by simp)]; exact h.c6
  · rw [World.frozen?_setCell]; exact h.f0
  · rw [World.frozen?_setCell]; exact h.f1
  · rw [World.frozen?_setCell]; exact h.f2
  · rw [World.frozen?_setCell]; exact h.f3
  · rw [World.frozen?_setCell]; exact h.f4
  · rw [World.frozen?_setCell]; exact h.f5
  · rw [World.frozen?_setCell]; exact h.f6
theorem Sev.set6 (h : Sev W g a0 a1 a2 a3 a4 a5 a6) (v : Value) : Sev (W.setCell ⟨g, 6, none⟩ v) g a0 a1 a2 a3 a4 a5 v := by
  refine ⟨?_, ?_, ?_, ?_, ?_, ?_, World.cell?_setCell_same _ _ _ h.c6, ?_, ?_, ?_, ?_, ?_, ?_, ?_⟩
  · rw [World.cell?_setCell_other _ _ _ _ (by simp)]; exact h.c0
  · rw [World.cell?_setCell_other _ _ _ _ (by simp)]; exact h.c1
  · rw [World.cell?_setCell_other _ _ _ _ (by simp)]; exact h.c2
  · rw [World.cell?_setCell_other _ _ _ _ (by simp)]; exact h.c3
  · rw [World.cell?_setCell_other _ _ _ _ (by simp)]; exact h.c4
  · rw [World.cell?_setCell_other _ _ _ _ (by simp)]; exact h.c5
  · rw [World.frozen?_setCell]; exact h.f0
  · rw [World.frozen?_setCell]; exact h.f1
  · rw [World.frozen?_setCell]; exact h.f2
  · rw [World.frozen?_setCell]; exact h.f3
  · rw [World.frozen?_setCell]; exact h.f4
  · rw [World.frozen?_setCell]; exact h.f5
  · rw [World.frozen?_setCell]; exact h.f6
theorem Sev.apart (h : Sev W g a0 a1 a2 a3 a4 a5 a6) {g' o : Nat} (hne : g ≠ g') (v : Value) : Sev (W.setCell ⟨g', o, none⟩ v) g a0 a1 a2 a3 a4 a5 a6 := by
  have hn : ∀ i, (⟨g, i, none⟩ : Addr) ≠ ⟨g', o, none⟩ := fun i h => hne (congrArg Addr.block h)
  refine ⟨?_, ?_, ?_, ?_, ?_, ?_, ?_, ?_, ?_, ?_, ?_, ?_, ?_, ?_⟩
  · rw [World.cell?_setCell_other _ _ _ _ (hn _).symm]; exact h.c0
  · rw [World.cell?_setCell_other _ _ _ _ (hn _).symm]; exact h.c1
  · rw [World.cell?_setCell_other _ _ _ _ (hn _).symm]; exact h.c2
  · rw [World.cell?_setCell_other _ _ _ _ (hn _).symm]; exact h.c3
  · rw [World.cell?_setCell_other _ _ _ _ (hn _).symm]; exact h.c4
  · rw [World.cell?_setCell_other _ _ _ _ (hn _).symm]; exact h.c5
  · rw [World.cell?_setCell_other _ _ _ _ (hn _).symm]; exact h.c6
  · rw [World.frozen?_setCell]; exact h.f0
  · rw [World.frozen?_setCell]; exact h.f1
  · rw [World.frozen?_setCell]; exact h.f2
  · rw [World.frozen?_setCell]; exact h.f3
  · rw [World.frozen?_setCell]; exact h.f4
  · rw [World.frozen?_setCell]; exact h.f5
  · rw [World.frozen?_setCell]; exact h.f6
end
theorem twinI_any (A : Option Addr) (c B : Nat) (l : List Int) (n : Nat) (w : World) (hln : l.length = n) (hA : SlV w B A (ints l)) (hl : n ≤ 1048576) :
    Calls Tryz.prog 45 #[.slice A n c] w fun e w' => (∃ v, e = .returned v ∧ OwnV w' w.heap.size 3 v (ints l)) ∧ Below w.heap.size w w' := by
  have hil := ints_length l
  have src := hA.src (ints_one l) Tryz.underlying43 c
  rw [hil, hln] at src
  have HL := Lib.hid hil
  have HN := Lib.hid hln
  clear hil hln
  go_enter Tryz.func45, Tryz.ntmps45
  go_wp2_with (first
    | (at_builtin
       refine wpList_appV _ rfl (.tmp 4) (.tmp 5) _ _ rfl w.heap.size 3 tvI (.slice none 0 0) [] rfl (ownV_nil _ _ _) _ (ints l) rfl (by rw [HL.out, HN.out]; exact src) ?_ ?_ ?_ ?_
       · rw [HL.out, HN.out]; unfold maxLen; simp; omega
       · rw [HL.out, HN.out]; simp; omega
       · exact Nat.le_refl _
       intro v2 w2 hown2 hg2 hat2))
  go_ret
  exact ⟨⟨v2, rfl, by simpa using hown2⟩, (Below.refl _ _).grown hg2 (Nat.le_refl _) (fun k hk => by simp [Value.ownBlock] at hk)⟩
end Go.Proofs.YtbfdpibjicjagaaGreatDoor.anc
