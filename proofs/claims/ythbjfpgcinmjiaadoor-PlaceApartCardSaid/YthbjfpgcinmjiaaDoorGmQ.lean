/-
  The slice that counts how often each cell is met, beside a geometry's variable: what a world holds of both. Conditions: as many cells as 2^20.
-/
import Derived.Test.YthbjfpgcinmjiaaDoorGmP
namespace Go.Proofs.YthbjfpgcinmjiaaDoor.gmt
open Go.RowKit Go.Lib

def tab (N : Nat) (f : Nat → Int) : List Int := (List.range N).map f
theorem tab_length (N : Nat) (f : Nat → Int) : (tab N f).length = N := by simp [tab]
theorem ints_tab_length (N : Nat) (f : Nat → Int) : (ints (tab N f)).length = N := by rw [ints_length, tab_length]
theorem tab_get (N : Nat) (f : Nat → Int) (x : Nat) (hx : x < (ints (tab N f)).length) : (ints (tab N f))[x] = .int .i64 (f x) := by simp [ints, tab]
theorem tab_set (N : Nat) (f : Nat → Int) (x : Nat) : (ints (tab N f)).set x (.int .i64 (f x + 1)) = ints (tab N (bump f x)) := by
  apply List.ext_getElem
  · simp [ints, tab]
  · intro j h1 h2
    simp only [List.getElem_set, ints, tab, List.getElem_map, List.getElem_range, bump]
    by_cases h : x = j
    · subst h; simp
    · rw [if_neg h, if_neg (fun e => h e.symm)]

/-- What a world holds: a geometry at block b, the counts at block g. -/
structure St (w W : World) (b g : Nat) (z d s l a : Int) (N : Nat) (f : Nat → Int) : Prop where
  c0 : W.cell? ⟨b, 0, none⟩ = some (.int .i64 z)
  c1 : W.cell? ⟨b, 1, none⟩ = some (.int .i64 d)
  c2 : W.cell? ⟨b, 2, none⟩ = some (.int .i64 s)
  c3 : W.cell? ⟨b, 3, none⟩ = some (.int .i64 l)
  c4 : W.cell? ⟨b, 4, none⟩ = some (.int .i64 a)
  own : OwnV W (b + 1) 3 (.slice (some ⟨g, 0, none⟩) N N) (ints (tab N f))
  hb : b < W.heap.size
  bw : w.heap.size ≤ b
  bg : b < g
  hw : Below w.heap.size w W

section
variable {w W : World} {b g : Nat} {z d s l a : Int} {N : Nat} {f : Nat → Int}
theorem St.below {W' : World} (h : St w W b g z d s l a N f) (hb : Below W.heap.size W W') : St w W' b g z d s l a N f :=
  ⟨kst hb h.hb h.c0, kst hb h.hb h.c1, kst hb h.hb h.c2, kst hb h.hb h.c3, kst hb h.hb h.c4, h.own.below hb, Nat.lt_of_lt_of_le h.hb hb.size, h.bw, h.bg, bt h.hw hb⟩
theorem St.cell (h : St w W b g z d s l a N f) {x : Nat} (hx : x < N) : W.cell? ⟨g, x, none⟩ = some (.int .i64 (f x)) := by
  have := h.own.cell x (by rw [ints_tab_length]; exact hx)
  rwa [tab_get] at this
theorem St.frozen (h : St w W b g z d s l a N f) (x : Nat) : W.frozen? ⟨g, x, none⟩ = false := h.own.frozen (ints_tab_length N f) x
theorem St.store (h : St w W b g z d s l a N f) {x : Nat} (hx : x < N) : St w (W.setCell ⟨g, x, none⟩ (.int .i64 (f x + 1))) b g z d s l a N (bump f x) := by
  obtain ⟨h1, h2⟩ := h.own.store (ints_tab_length N f) x (.int .i64 (f x + 1))
  rw [tab_set] at h1
  obtain ⟨g', c', e', -, -, -, hg⟩ := h.own.at (by rw [ints_tab_length]; omega)
  obtain rfl : g = g' := by
    simp only [Value.slice.injEq, Option.some.injEq, Addr.mk.injEq] at e'
    exact e'.1.1
  have hk : Below g W (W.setCell ⟨g, x, none⟩ (.int .i64 (f x + 1))) := ⟨h2.os, h2.tape, h2.output, h2.size, fun k hk => h2.block k (by omega) (fun e => by cases e; omega)⟩
  exact ⟨(hk.cell (p := ⟨b, 0, none⟩) h.bg).trans h.c0, (hk.cell (p := ⟨b, 1, none⟩) h.bg).trans h.c1, (hk.cell (p := ⟨b, 2, none⟩) h.bg).trans h.c2, (hk.cell (p := ⟨b, 3, none⟩) h.bg).trans h.c3, (hk.cell (p := ⟨b, 4, none⟩) h.bg).trans h.c4,
    h1, Nat.lt_of_lt_of_le h.hb h2.size, h.bw, h.bg, h.hw.grown h2 h.hw.size (fun k hk => by cases hk; have := h.bw; have := h.bg; omega)⟩
end

def icells (n : Nat) : Array Value := madeCells #[.int .i64 0] n
theorem icells_list (n : Nat) : (icells n).toList = ints (tab n fun _ => 0) := by
  unfold icells madeCells
  apply List.ext_getElem
  · simp [ints, tab]
  · intro i h2 h3
    simp [ints, tab, Nat.mod_one]
theorem icells_size (n : Nat) : (icells n).size = n := by simp [icells, madeCells]
theorem make_ints (n : Nat) (hn : n ≤ 1048576) (W : World) : (Instr.makeSlice 42 (.int .i64 (n : Int)) (.int .i64 (n : Int))).run Tryd.prog W = .ok (.slice (some ⟨W.heap.size, 0, none⟩) n n) (W.alloc (.cells (icells n) 3)) := by
  obtain ⟨ht, _, i, hi, hz, h1, hb8⟩ := tvI
  have hr := run_make (P := Tryd.prog) W 42 3 i (.int .i64 0) ht hi hz .i64 .i64 (n : Int) (n : Int) (by omega) (by omega) (by rw [hb8]; omega) (by omega)
  simpa [h1, icells, Value.cells] using hr
theorem St.new {w W : World} {b : Nat} {z d s l a : Int} {N : Nat} (hN : N ≤ 1048576) (c0 : W.cell? ⟨b, 0, none⟩ = some (.int .i64 z)) (c1 : W.cell? ⟨b, 1, none⟩ = some (.int .i64 d)) (c2 : W.cell? ⟨b, 2, none⟩ = some (.int .i64 s))
    (c3 : W.cell? ⟨b, 3, none⟩ = some (.int .i64 l)) (c4 : W.cell? ⟨b, 4, none⟩ = some (.int .i64 a)) (hb : b < W.heap.size) (bw : w.heap.size ≤ b) (hw : Below w.heap.size w W) :
    St w (W.alloc (.cells (icells N) 3)) b W.heap.size z d s l a N fun _ => 0 := by
  have k := bl W (.cells (icells N) 3)
  refine ⟨kst k hb c0, kst k hb c1, kst k hb c2, kst k hb c3, kst k hb c4, ?_, Nat.lt_of_lt_of_le hb k.size, bw, hb, bt hw k⟩
  unfold OwnV
  rw [ints_tab_length, ← icells_list]
  exact World.ownsRow_lit W (icells N) N (by omega) (by unfold maxLen; omega) (by rw [icells_size]; omega)
theorem Met.start {z d s l a : Int} {N : Nat} (ho : Ok z d s l a) (hN : a + 2 * l + 2 * z + z * (d + 1 + s) = N) : Met z d s l a N (30 * 0 + 0) fun _ => 0 := fun x hx => by
  have := (hit_iff (x := (x : Int)) (i := 0) (k := 0) ho (by omega) (by omega) (by omega)).2
  rw [if_neg (by omega)]
theorem Met.all {z d s l a : Int} {N : Nat} {f : Nat → Int} (ho : Ok z d s l a) (hN : a + 2 * l + 2 * z + z * (d + 1 + s) = N) (h : Met z d s l a N (30 * 4 + 0) f) {x : Nat} (hx : x < N) : f x = 1 := by
  have := (hit_iff (x := (x : Int)) (i := 0) (k := 0) ho (by omega) (by omega) (by omega)).2
  rw [h x hx, if_pos (by omega)]
/-- No count is great. -/
def Bd (N : Nat) (c : Int) (f : Nat → Int) : Prop := ∀ x, x < N → 0 ≤ f x ∧ f x ≤ c
theorem Met.bd {z d s l a t : Int} {N : Nat} {f : Nat → Int} (h : Met z d s l a N t f) : Bd N 1 f := fun x hx => by
  rw [h x hx]
  split <;> omega
theorem Bd.bump {N : Nat} {c : Int} {f : Nat → Int} (h : Bd N c f) (A : Nat) : Bd N (c + 1) (bump f A) := fun x hx => by
  have := h x hx
  unfold gmt.bump
  split <;> omega
end Go.Proofs.YthbjfpgcinmjiaaDoor.gmt
