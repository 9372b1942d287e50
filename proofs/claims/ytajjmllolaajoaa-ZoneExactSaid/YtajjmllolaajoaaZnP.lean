/-
  What the laws of package zone ask of its functions; the laws' own example (wakes). Conditions: 'Czn'.
-/
import Derived.Test.YtajjmllolaajoaaZnF
import Derived.Test.YtajjmllolaajoaaTbP
namespace Go.Proofs.Ytajjmllolaajoaa.zon
open Go.RowKit Go.Lib
open Go.Proofs.Ytajjmllolaajoaa.gmt (Ok)
open Go.Proofs.Ytajjmllolaajoaa.anc (bl kal kst ks bm ka)
open Go.Proofs.Ytajjmllolaajoaa.tbl (Ent EntOk C1 c1_new G5 g5_new OwnE)
open Go.Proofs.Ytajjmllolaajoaa.par (zx zeros zeros_length zx_length)

/-- Which of a zone's. -/
def atN (D : Nat) (i : Int) : Nat := if i = -1 then D else i.toNat
/-- Which of many byte strings are some. -/
def kn (L : List (List UInt8)) : List Bool := L.map fun l => !l.isEmpty
theorem kn_length (L : List (List UInt8)) : (kn L).length = L.length := by simp [kn]
theorem kn_get {L : List (List UInt8)} {i : Nat} {l : List UInt8} (h : L[i]? = some l) : (kn L)[i]? = some (!l.isEmpty) := by simp [kn, h]
/-- What all answers; none, and why; what one answers. -/
def AllZ (m : Nat) (L : List (List UInt8)) (e : Ending) (w' : World) : Prop := ∃ (Y : Option Addr) (yc : Nat) (yr : List Row) (K : Option Addr) (kc : Nat), e = .returned (.tuple #[.slice Y m yc, .slice K m kc, .int .i64 0]) ∧ lists yr = L ∧ LV.In w' w'.heap.size ⟨Y, yc, yr⟩ ∧ SlV w' w'.heap.size K (bools (kn L))
def AllNo (n : Int) (e : Ending) : Prop := ∃ (X : Option Addr) (c : Nat) (K : Option Addr) (k : Nat), e = .returned (.tuple #[.slice X 0 c, .slice K 0 k, .int .i64 n])
def BlkZ (base : Nat) (L : List UInt8) (e : Ending) (w' : World) : Prop := ∃ (X : Option Addr) (c : Nat), e = .returned (.tuple #[.slice X L.length c, .int .i64 (if L = [] then 13 else 0)]) ∧ Own w' base 5 (.slice X L.length c) L
/-- What is asked of package zone, in every world behind w. -/
structure Czn (w : World) : Prop where
  all : ∀ (z s l a : Int) (D : Nat) (x : tbl.TV) (N : Nat) (h : LV) (n : Nat) (W : World), Below w.heap.size w W → Ok z D s l a → x.In W W.heap.size → x.es.length = N → tbl.Good D x.es → h.In W W.heap.size → h.rs.length = n → HadOk (D + 1) (lists h.rs) → Calls Try.prog 13 #[.agg #[.int .i64 z, .int .i64 D, .int .i64 s, .int .i64 l, .int .i64 a], .agg #[.slice x.A N x.c], .slice h.A n h.c] W fun e w' => AllZ (D + 1) (knowns (D + 1) x.es (lists h.rs)) e w' ∧ Below W.heap.size W w'
  all_geo : ∀ (z d s l a : Int) (x : tbl.TV) (N : Nat) (h : LV) (n : Nat) (W : World), Below w.heap.size w W → ¬ (Ok z d s l a ∧ tbl.Good d x.es) → x.In W W.heap.size → x.es.length = N → N ≤ 1048576 → h.In W W.heap.size → h.rs.length = n → n ≤ 1048576 → Calls Try.prog 13 #[.agg #[.int .i64 z, .int .i64 d, .int .i64 s, .int .i64 l, .int .i64 a], .agg #[.slice x.A N x.c], .slice h.A n h.c] W fun e w' => AllNo 1 e ∧ Below W.heap.size W w'
  all_len : ∀ (z s l a : Int) (D : Nat) (x : tbl.TV) (N : Nat) (h : LV) (n : Nat) (W : World), Below w.heap.size w W → Ok z D s l a → x.In W W.heap.size → x.es.length = N → tbl.Good D x.es → h.In W W.heap.size → h.rs.length = n → n ≤ 1048576 → ¬ HadOk (D + 1) (lists h.rs) → Calls Try.prog 13 #[.agg #[.int .i64 z, .int .i64 D, .int .i64 s, .int .i64 l, .int .i64 a], .agg #[.slice x.A N x.c], .slice h.A n h.c] W fun e w' => AllNo 2 e ∧ Below W.heap.size W w'
  block : ∀ (z s l a : Int) (D : Nat) (x : tbl.TV) (N : Nat) (h : LV) (n : Nat) (W : World) (i : Int), Below w.heap.size w W → Ok z D s l a → x.In W W.heap.size → x.es.length = N → tbl.Good D x.es → h.In W W.heap.size → h.rs.length = n → HadOk (D + 1) (lists h.rs) → -1 ≤ i ∧ i ≤ (D : Int) - 1 → Calls Try.prog 12 #[.agg #[.int .i64 z, .int .i64 D, .int .i64 s, .int .i64 l, .int .i64 a], .agg #[.slice x.A N x.c], .slice h.A n h.c, .int .i64 i] W fun e w' => BlkZ W.heap.size (known (D + 1) x.es (lists h.rs) (atN D i)) e w' ∧ Below W.heap.size W w'
  block_what : ∀ (z s l a : Int) (D : Nat) (x : tbl.TV) (N : Nat) (h : LV) (n : Nat) (W : World) (i : Int), Below w.heap.size w W → Ok z D s l a → x.In W W.heap.size → x.es.length = N → tbl.Good D x.es → h.In W W.heap.size → h.rs.length = n → HadOk (D + 1) (lists h.rs) → ¬ (-1 ≤ i ∧ i ≤ (D : Int) - 1) → Calls Try.prog 12 #[.agg #[.int .i64 z, .int .i64 D, .int .i64 s, .int .i64 l, .int .i64 a], .agg #[.slice x.A N x.c], .slice h.A n h.c, .int .i64 i] W fun e w' => tbl.NonE 1 e ∧ Below W.heap.size W w'
  block_geo : ∀ (z d s l a : Int) (x : tbl.TV) (N : Nat) (h : LV) (n : Nat) (W : World) (i : Int), Below w.heap.size w W → ¬ (Ok z d s l a ∧ tbl.Good d x.es) → x.In W W.heap.size → x.es.length = N → N ≤ 1048576 → h.In W W.heap.size → h.rs.length = n → n ≤ 1048576 → Calls Try.prog 12 #[.agg #[.int .i64 z, .int .i64 d, .int .i64 s, .int .i64 l, .int .i64 a], .agg #[.slice x.A N x.c], .slice h.A n h.c, .int .i64 i] W fun e w' => tbl.NonE 1 e ∧ Below W.heap.size W w'
  block_len : ∀ (z s l a : Int) (D : Nat) (x : tbl.TV) (N : Nat) (h : LV) (n : Nat) (W : World) (i : Int), Below w.heap.size w W → Ok z D s l a → x.In W W.heap.size → x.es.length = N → tbl.Good D x.es → h.In W W.heap.size → h.rs.length = n → n ≤ 1048576 → ¬ HadOk (D + 1) (lists h.rs) → Calls Try.prog 12 #[.agg #[.int .i64 z, .int .i64 D, .int .i64 s, .int .i64 l, .int .i64 a], .agg #[.slice x.A N x.c], .slice h.A n h.c, .int .i64 i] W fun e w' => tbl.NonE 2 e ∧ Below W.heap.size W w'
theorem Czn.next {w w' : World} (k : Czn w) (hb : Below w.heap.size w w') : Czn w' where
  all := fun z s l a D x N h n W hW => k.all z s l a D x N h n W (bt hb hW)
  all_geo := fun z d s l a x N h n W hW => k.all_geo z d s l a x N h n W (bt hb hW)
  all_len := fun z s l a D x N h n W hW => k.all_len z s l a D x N h n W (bt hb hW)
  block := fun z s l a D x N h n W i hW => k.block z s l a D x N h n W i (bt hb hW)
  block_what := fun z s l a D x N h n W i hW => k.block_what z s l a D x N h n W i (bt hb hW)
  block_geo := fun z d s l a x N h n W i hW => k.block_geo z d s l a x N h n W i (bt hb hW)
  block_len := fun z s l a D x N h n W i hW => k.block_len z s l a D x N h n W i (bt hb hW)
/-- A full zone is a right one. -/
theorem full_good (st : Int) (bs : List (List UInt8)) (ls : List Bool) (D : Nat) (hs : 0 ≤ st ∧ st ≤ 4294967295) : tbl.Good (D : Int) (fullE st bs ls D) := by
  have hsm : ∀ l : List UInt8, (0 : Int) ≤ (crc.sum l : Nat) ∧ ((crc.sum l : Nat) : Int) ≤ 4294967295 := fun l => ⟨Int.natCast_nonneg _, by have := crc.sum_lt l; omega⟩
  refine ⟨by rw [fullE_length]; omega, fun e he => ?_, fun e he => ?_⟩
  · unfold fullE at he
    rcases List.mem_append.1 he with k | k
    · obtain ⟨i, -, rfl⟩ := List.mem_map.1 k
      exact ⟨hs, hsm _⟩
    · rw [List.mem_singleton] at k
      rw [k]
      exact ⟨hs, hsm _⟩
  · rw [Int.toNat_natCast, fullE_last] at he
    rw [← Option.some.inj he]
/-- A row of one's own made nothing: what it is then, and all else as it was. -/
theorem hadK_set {ls : List (List UInt8)} {j : Nat} (x : List UInt8) (hj : j < ls.length) (i : Nat) : hadK (ls.set j x) i = if i = j then x else hadK ls i := by
  unfold hadK
  by_cases h : i = j
  · subst h
    rw [if_pos rfl, List.getElem?_set_self hj]
    rfl
  · rw [if_neg h, List.getElem?_set_ne (fun k => h k.symm)]
theorem missed_refl (all : List (List UInt8)) : Missed all all := fun _ => .inl rfl
theorem missed_set {all hs : List (List UInt8)} (h : Missed all hs) {j : Nat} (hj : j < hs.length) : Missed all (hs.set j []) := fun i => by
  rw [hadK_set [] hj i]
  by_cases k : i = j
  · rw [if_pos k]; exact .inr rfl
  · rw [if_neg k]; exact h i
theorem had_set {n : Nat} {hs : List (List UInt8)} (h : HadOk n hs) (j : Nat) : HadOk n (hs.set j []) := by
  refine ⟨by rw [List.length_set]; exact h.1, fun x hx => ?_⟩
  rcases List.mem_or_eq_of_mem_set hx with k | k
  · exact h.2 x k
  · exact .inl k
def b8 : List UInt8 := [1, 2, 3, 4, 5, 6, 7, 8]
theorem full_b8 (D : Nat) (h : 1 ≤ D) : lostK (fullE 3 [b8] [] D) 0 = false ∧ hadK (fullH [b8] [] D) 0 = b8 := by
  rw [lostK_get (fullE_get (by omega)), hadK_get (fullH_get (by omega))]
  exact ⟨rfl, rfl⟩
theorem not_lost (st : Int) (bs : List (List UInt8)) (D i : Nat) : lostK (fullE st bs [] D) i = false := by
  by_cases h : i < D
  · rw [lostK_get (fullE_get h)]; rfl
  · by_cases h2 : i = D
    · rw [h2, lostK_get fullE_last]
    · unfold lostK
      rw [List.getElem?_eq_none (by rw [fullE_length]; omega)]
      rfl
/-- A full zone, its places told. -/
def FullZ (base : Nat) (D : Nat) (st : Int) (bs : List (List UInt8)) (ls : List Bool) (e : Ending) (w' : World) : Prop := ∃ (t : tbl.TV) (g c : Nat) (rows : List Row), e = .returned (.tuple #[.agg #[.slice t.A (D + 1 : Nat) t.c], .slice (some ⟨g, 0, none⟩) (D + 1 : Nat) c]) ∧ t.es = fullE st bs ls D ∧ t.Own w' base ∧ OwnRows w' base (.slice (some ⟨g, 0, none⟩) (D + 1 : Nat) c) rows (fullH bs ls D) ∧ base ≤ g ∧ g < w'.heap.size ∧ (D + 1 ≤ c ∧ c ≤ maxLen)
theorem full_z (z s l a st : Int) (D : Nat) (A B : Option Addr) (n c m d : Nat) (rs : List Row) (bl : List Bool) (w : World) (ho : Ok z D s l a) (hn : rs.length = n) (hm : bl.length = m) (hn1 : n ≤ 1048576) (hA : SlV w w.heap.size A (vals rs)) (hR : Rws w w.heap.size rs) (hB : SlV w w.heap.size B (bools bl)) :
    Calls Try.prog 25 #[.agg #[.int .i64 z, .int .i64 D, .int .i64 s, .int .i64 l, .int .i64 a], .slice A n c, .slice B m d, .int .i64 st] w fun e w' => FullZ w.heap.size D st (lists rs) bl e w' ∧ Below w.heap.size w w' := by
  refine (full_c z s l a st D A B n c m d rs bl w ho hn hm hn1 hA hR hB).mono ?_
  rintro e w' ⟨⟨t, v, rows, rfl, hte, hto, hor⟩, hb⟩
  obtain ⟨g, gc, hv, h1, h2, h3, h4⟩ := hor.at (fullH_length _ _ _) (by omega)
  subst hv
  have hl : t.es.length = D + 1 := by rw [hte, fullE_length]
  exact ⟨⟨t, g, gc, rows, by rw [tbl.TV.v, hl], hte, hto, hor, h3, h4, h1, h2⟩, hb⟩
/-- One of them made nothing. -/
theorem rows_nil {w : World} {base g m c : Nat} {rows : List Row} {ls : List (List UInt8)} (h : OwnRows w base (.slice (some ⟨g, 0, none⟩) m c) rows ls) (hm : ls.length = m) (j : Nat) : OwnRows (w.setCell ⟨g, j, none⟩ (.slice none 0 0)) base (.slice (some ⟨g, 0, none⟩) m c) (rows.set j ⟨none, 0, []⟩) (ls.set j []) ∧ w.grownBy (w.setCell ⟨g, j, none⟩ (.slice none 0 0)) (some g) :=
  h.set hm j (r := ⟨none, 0, []⟩) (own_nil _ _ _)
theorem tab_kept {w w' : World} {b b' g m c : Nat} {t : tbl.TV} {rows : List Row} {ls : List (List UInt8)} (ht : t.Own w b) (h : OwnRows w b' (.slice (some ⟨g, 0, none⟩) m c) rows ls) (hg : w.grownBy w' (some g)) : t.Own w' b :=
  World.ownsRow.kept ht hg (rows_apart ht h.1 ent_row)
theorem rows_in {w : World} {base g m c : Nat} {rows : List Row} {ls : List (List UInt8)} (h : OwnRows w base (.slice (some ⟨g, 0, none⟩) m c) rows ls) : LV.In w w.heap.size ⟨some ⟨g, 0, none⟩, c, rows⟩ := by
  obtain ⟨A, c', hv, hi⟩ := rows_lv h
  simp only [Value.slice.injEq] at hv
  obtain ⟨rfl, -, rfl⟩ := hv
  exact hi
theorem rows_frozen {w : World} {base g m c : Nat} {rows : List Row} {ls : List (List UInt8)} (h : OwnRows w base (.slice (some ⟨g, 0, none⟩) m c) rows ls) (hm : ls.length = m) (j : Nat) (hj : j < m) : (∃ u, w.cell? ⟨g, j, none⟩ = some u) ∧ w.frozen? ⟨g, j, none⟩ = false :=
  have hl : (vals rows).length = m := by rw [vals_length, h.len, hm]
  ⟨⟨_, h.1.cell j (by omega)⟩, h.1.frozen hl j⟩
set_option maxRecDepth 100000 in
set_option maxHeartbeats 8000000 in
theorem wk_zn (w : World) (hc : Czn w) : Calls Try.prog 18 #[] w fun e w' => e = .returned (.bool true) ∧ Below w.heap.size w w' := by
  have HC := Lib.hid hc
  clear hc
  have HSO := Lib.hid (gmt.some_any 0 1 0 0 0 w)
  go_enter Try.func18, Try.ntmps18
  go_upto_region 2 with (go_at_call 24; (with_reducible refine HSO.out.mono ?_); rintro e w1 ⟨⟨z, d, s, l, a, ho, rfl⟩, hb1⟩)
  obtain ⟨D, rfl⟩ : ∃ D : Nat, d = D := ⟨d.toNat, by have := ho.2.1; omega⟩
  have hxG := bl w1 (.cells #[.int .i64 z, .int .i64 D, .int .i64 s, .int .i64 l, .int .i64 a] 23)
  have GG := g5_new w1 z D s l a
  have l1 : w1.heap.size < (w1.alloc (.cells #[.int .i64 z, .int .i64 D, .int .i64 s, .int .i64 l, .int .i64 a] 23)).heap.size := by simp
  have lwg1 := hb1.size
  have hx := bt hb1 hxG
  have HO := Lib.hid ho
  have hD := ho.2.1
  have HD1 : Hid (1 ≤ D ∧ D ≤ 4) := Lib.hid (by omega)
  clear hb1 hxG ho hD HSO
  generalize hg1 : w1.heap.size = g1 at *
  clear hg1
  generalize w1.alloc (.cells #[.int .i64 z, .int .i64 D, .int .i64 s, .int .i64 l, .int .i64 a] 23) = w2 at *
  have bA := bl w2 (.cells #[.int .u8 1, .int .u8 2, .int .u8 3, .int .u8 4, .int .u8 5, .int .u8 6, .int .u8 7, .int .u8 8] 5)
  have bB := kal bA (.cells #[.slice (some ⟨w2.heap.size, 0, none⟩) 8 8] 31)
  have hs0 : Sl (w2.alloc (.cells #[.int .u8 1, .int .u8 2, .int .u8 3, .int .u8 4, .int .u8 5, .int .u8 6, .int .u8 7, .int .u8 8] 5)) (w2.alloc (.cells #[.int .u8 1, .int .u8 2, .int .u8 3, .int .u8 4, .int .u8 5, .int .u8 6, .int .u8 7, .int .u8 8] 5)).heap.size (some ⟨w2.heap.size, 0, none⟩) b8 := Sl.of_block (heap_alloc_new w2 _) rfl (by simp)
  have hR1 : SlV ((w2.alloc (.cells #[.int .u8 1, .int .u8 2, .int .u8 3, .int .u8 4, .int .u8 5, .int .u8 6, .int .u8 7, .int .u8 8] 5)).alloc (.cells #[.slice (some ⟨w2.heap.size, 0, none⟩) 8 8] 31)) ((w2.alloc (.cells #[.int .u8 1, .int .u8 2, .int .u8 3, .int .u8 4, .int .u8 5, .int .u8 6, .int .u8 7, .int .u8 8] 5)).alloc (.cells #[.slice (some ⟨w2.heap.size, 0, none⟩) 8 8] 31)).heap.size (some ⟨(w2.alloc (.cells #[.int .u8 1, .int .u8 2, .int .u8 3, .int .u8 4, .int .u8 5, .int .u8 6, .int .u8 7, .int .u8 8] 5)).heap.size, 0, none⟩) (vals [⟨some ⟨w2.heap.size, 0, none⟩, 8, b8⟩]) := SlV.of_block (heap_alloc_new _ _) rfl (by simp)
  have hR2 : Rws ((w2.alloc (.cells #[.int .u8 1, .int .u8 2, .int .u8 3, .int .u8 4, .int .u8 5, .int .u8 6, .int .u8 7, .int .u8 8] 5)).alloc (.cells #[.slice (some ⟨w2.heap.size, 0, none⟩) 8 8] 31)) ((w2.alloc (.cells #[.int .u8 1, .int .u8 2, .int .u8 3, .int .u8 4, .int .u8 5, .int .u8 6, .int .u8 7, .int .u8 8] 5)).alloc (.cells #[.slice (some ⟨w2.heap.size, 0, none⟩) 8 8] 31)).heap.size [⟨some ⟨w2.heap.size, 0, none⟩, 8, b8⟩] := Rws.one (hs0.next (bl _ _))
  have e1 : (w2.alloc (.cells #[.int .u8 1, .int .u8 2, .int .u8 3, .int .u8 4, .int .u8 5, .int .u8 6, .int .u8 7, .int .u8 8] 5)).heap.size = w2.heap.size + 1 := by simp
  rw [e1] at hR1
  have HFU := Lib.hid (full_z z s l a 3 D (some ⟨w2.heap.size + 1, 0, none⟩) none 1 1 0 0 [⟨some ⟨w2.heap.size, 0, none⟩, 8, b8⟩] [] ((w2.alloc (.cells #[.int .u8 1, .int .u8 2, .int .u8 3, .int .u8 4, .int .u8 5, .int .u8 6, .int .u8 7, .int .u8 8] 5)).alloc (.cells #[.slice (some ⟨w2.heap.size, 0, none⟩) 8 8] 31)) HO.out rfl rfl (by decide) hR1 hR2 (SlV.nil _ _ _))
  have bB2 : Below w2.heap.size w2 ((w2.alloc (.cells #[.int .u8 1, .int .u8 2, .int .u8 3, .int .u8 4, .int .u8 5, .int .u8 6, .int .u8 7, .int .u8 8] 5)).alloc (.cells #[.slice (some ⟨w2.heap.size, 0, none⟩) 8 8] 31)) := bB
  clear hs0 hR1 hR2 e1 bA bB
  obtain ⟨g0, g1', g2, g3, g4⟩ := id GG
  go_upto_region 3 with (go_at_call 25; (with_reducible refine HFU.out.mono ?_); rintro e w3 ⟨⟨t, gh, hc, rows, rfl, hte0, hto, hor, hgh1, hgh2, hcap⟩, hb3⟩; have HTE := Lib.hid hte0; clear hte0)
  have hxT := bl w3 (.cells #[.slice t.A (D + 1 : Nat) t.c] 26)
  have TT := c1_new w3 (.slice t.A (D + 1 : Nat) t.c) 26
  have lT : w3.heap.size < (w3.alloc (.cells #[.slice t.A (D + 1 : Nat) t.c] 26)).heap.size := by simp
  have b4 := bt bB2 (bt hb3 hxT)
  have lgh : g1 < gh := Nat.lt_of_lt_of_le l1 (Nat.le_trans bB2.size hgh1)
  have lghT : gh ≠ w3.heap.size := Nat.ne_of_lt hgh2
  have hto2 := tbl.TV.Own.below hto hxT
  have hor2 := hor.below hxT
  replace GG := GG.keep b4 l1
  replace l1 := Nat.lt_of_lt_of_le l1 b4.size
  replace hx := bt hx b4
  have lwg : w.heap.size ≤ gh := Nat.le_trans lwg1 (Nat.le_of_lt lgh)
  clear b4 bB2 hb3 hxT hto hor g0 g1' g2 g3 g4 HFU hgh1 hgh2
  generalize hgT : w3.heap.size = gT at *
  clear hgT
  generalize w3.alloc (.cells #[.slice t.A (D + 1 : Nat) t.c] 26) = w4 at *
  obtain ⟨⟨u0, c0⟩, f0⟩ := rows_frozen hor2 (fullH_length _ _ _) 0 (by omega)
  have HOR := Lib.hid hor2
  have HTO := Lib.hid hto2
  clear hor2 hto2
  have j0 : (0 : Int) < ((D + 1 : Nat) : Int) := by omega
  go_upto_region 4 with fail
  obtain ⟨hor5, hg5⟩ := rows_nil HOR.out (fullH_length _ _ _) 0
  have hto5 := tab_kept HTO.out HOR.out hg5
  have b5 : Below gh w4 (w4.setCell ⟨gh, 0, none⟩ (.slice none 0 0)) := (Below.refl gh w4).setCell (p := ⟨gh, 0, none⟩) (Nat.le_refl gh) _
  have lsz : (w4.setCell ⟨gh, 0, none⟩ (.slice none 0 0)).heap.size = w4.heap.size := by simp
  have T5 := TT.apart (o := 0) lghT.symm (.slice none 0 0)
  have G5' := GG.keep b5 lgh
  have hx5 := hx.trans (b5.mono lwg)
  rw [← lsz] at lT l1
  have HL5 := Lib.hid hor5.2.1
  have HOR5 := Lib.hid hor5
  have HTO5 := Lib.hid hto5
  clear hor5 hg5 hto5 b5 lsz TT GG hx HOR HTO c0 f0
  generalize w4.setCell ⟨gh, 0, none⟩ (.slice none 0 0) = w5 at *
  have hlz : ((fullH [b8] [] D).set 0 []).length = D + 1 := by rw [List.length_set, fullH_length]
  have HF := Lib.hid (full_b8 D HD1.out.1)
  have HK5 := Lib.hid (show known (D + 1) (fullE 3 [b8] [] D) ((fullH [b8] [] D).set 0 []) 0 = b8 from by
    rw [known_full (missed_set (missed_refl _) (by rw [fullH_length]; omega)) (Nat.zero_le _) (fun k hk hk0 _ => by
      rw [hadK_set [] (by rw [fullH_length]; omega) k, if_neg hk0]
      intro h0
      rcases full_each (st := 3) (bs := [b8]) (ls := []) hk with ⟨h, -⟩ | ⟨-, h, -⟩
      · rw [not_lost] at h; cases h
      · rw [h0] at h; cases h) HF.out.1]
    exact HF.out.2)
  have hgd := full_good 3 [b8] [] D (by decide)
  have HB5 := Lib.hid (show Calls Try.prog 12 #[.agg #[.int .i64 z, .int .i64 D, .int .i64 s, .int .i64 l, .int .i64 a], .agg #[.slice t.A (D + 1 : Nat) t.c], .slice (some ⟨gh, 0, none⟩) (D + 1 : Nat) hc, .int .i64 0] w5 fun e w' => (∃ (X : Option Addr) (c : Nat), e = .returned (.tuple #[.slice X 8 c, .int .i64 0]) ∧ Own w' w5.heap.size 5 (.slice X 8 c) b8) ∧ Below w5.heap.size w5 w' from by
    refine (HC.out.block z s l a D t (D + 1) ⟨some ⟨gh, 0, none⟩, hc, rows.set 0 ⟨none, 0, []⟩⟩ (D + 1) w5 0 hx5 HO.out (tbl.TV.Own.inn HTO5.out) (by rw [HTE.out, fullE_length]) (by rw [HTE.out]; exact hgd) (rows_in HOR5.out) (HOR5.out.len.trans hlz) (by show HadOk _ (lists (rows.set 0 _)); rw [HL5.out]; exact had_set (full_had _ _ _) 0) (by have := HD1.out.1; omega)).mono ?_
    rintro e w' ⟨⟨X, c, rfl, ho⟩, hb⟩
    have h9 : known (D + 1) t.es (lists (rows.set 0 ⟨none, 0, []⟩)) (atN D 0) = b8 := by rw [HTE.out, HL5.out]; exact HK5.out
    show (∃ (X : Option Addr) (c : Nat), _ ∧ _) ∧ _
    change Own _ _ _ (.slice X (known (D + 1) t.es (lists (rows.set 0 ⟨none, 0, []⟩)) (atN D 0)).length c) (known (D + 1) t.es (lists (rows.set 0 ⟨none, 0, []⟩)) (atN D 0)) at ho
    rw [h9] at ho
    refine ⟨⟨X, c, ?_, ho⟩, hb⟩
    show Ending.returned (.tuple #[.slice X (known (D + 1) t.es (lists (rows.set 0 ⟨none, 0, []⟩)) (atN D 0)).length c, .int .i64 (if known (D + 1) t.es (lists (rows.set 0 ⟨none, 0, []⟩)) (atN D 0) = [] then 13 else 0)]) = _
    rw [h9]
    rfl)
  obtain ⟨g0, g1', g2, g3, g4⟩ := id G5'
  have t0 := T5.c0
  go_upto_region 5 with (go_at_call 12; (with_reducible refine HB5.out.mono ?_); rintro e w6 ⟨⟨X, c, rfl, hbo⟩, hb6⟩)
  have T6 := T5.keep hb6 lT
  have G6 := G5'.keep hb6 l1
  have lgh5 : gh < w5.heap.size := by
    have := HOR5.out.1
    exact (World.ownsRow.lt this gh rfl).2
  have HOR6 := Lib.hid (HOR5.out.below hb6)
  have HTO6 := Lib.hid (tbl.TV.Own.below HTO5.out hb6)
  have hx6 := bt hx5 hb6
  have HBO := Lib.hid hbo
  replace lT := Nat.lt_of_lt_of_le lT hb6.size
  replace l1 := Nat.lt_of_lt_of_le l1 hb6.size
  obtain ⟨⟨u1, c1⟩, f1⟩ := rows_frozen HOR6.out hlz 1 (by have := HD1.out.1; omega)
  have j1 : (1 : Int) < ((D + 1 : Nat) : Int) := by have := HD1.out.1; omega
  clear g0 g1' g2 g3 g4 t0 hb6 hbo T5 G5' HB5 HOR5 HTO5
  go_upto_region 6 with fail
  obtain ⟨hor7, hg7⟩ := rows_nil HOR6.out hlz 1
  have hto7 := tab_kept HTO6.out HOR6.out hg7
  have b7 : Below gh w6 (w6.setCell ⟨gh, 1, none⟩ (.slice none 0 0)) := (Below.refl gh w6).setCell (p := ⟨gh, 1, none⟩) (Nat.le_refl gh) _
  have T7 := T6.apart (o := 1) lghT.symm (.slice none 0 0)
  have G7 := G6.keep b7 lgh
  have hx7 := hx6.trans (b7.mono lwg)
  have HBO7 := Lib.hid (own_set (o := 1) HBO.out lgh5 (.slice none 0 0))
  have HL7 := Lib.hid hor7.2.1
  have HOR7 := Lib.hid hor7
  have HTO7 := Lib.hid hto7
  clear hor7 hg7 hto7 b7 T6 G6 hx6 HOR6 HTO6 c1 f1 HBO
  generalize w6.setCell ⟨gh, 1, none⟩ (.slice none 0 0) = w7 at *
  have hlz7 : (((fullH [b8] [] D).set 0 []).set 1 []).length = D + 1 := by rw [List.length_set, hlz]
  have HK7 := Lib.hid (show known (D + 1) (fullE 3 [b8] [] D) (((fullH [b8] [] D).set 0 []).set 1 []) 0 = [] from
    known_gap (k := 1) (by have := HD1.out.1; omega) (by decide) (not_lost _ _ _ _) (by rw [hadK_set [] (by rw [hlz]; have := HD1.out.1; omega) 1, if_pos rfl]) (by rw [hadK_set [] (by rw [hlz]; have := HD1.out.1; omega) 0, if_neg (by decide), hadK_set [] (by rw [fullH_length]; omega) 0, if_pos rfl]))
  have HB7 := Lib.hid (show Calls Try.prog 12 #[.agg #[.int .i64 z, .int .i64 D, .int .i64 s, .int .i64 l, .int .i64 a], .agg #[.slice t.A (D + 1 : Nat) t.c], .slice (some ⟨gh, 0, none⟩) (D + 1 : Nat) hc, .int .i64 0] w7 fun e w' => (∃ (X : Option Addr) (c : Nat), e = .returned (.tuple #[.slice X 0 c, .int .i64 13])) ∧ Below w7.heap.size w7 w' from by
    refine (HC.out.block z s l a D t (D + 1) ⟨some ⟨gh, 0, none⟩, hc, (rows.set 0 ⟨none, 0, []⟩).set 1 ⟨none, 0, []⟩⟩ (D + 1) w7 0 hx7 HO.out (tbl.TV.Own.inn HTO7.out) (by rw [HTE.out, fullE_length]) (by rw [HTE.out]; exact hgd) (rows_in HOR7.out) (HOR7.out.len.trans hlz7) (by show HadOk _ (lists ((rows.set 0 _).set 1 _)); rw [HL7.out]; exact had_set (had_set (full_had _ _ _) 0) 1) (by have := HD1.out.1; omega)).mono ?_
    rintro e w' ⟨⟨X, c, rfl, ho⟩, hb⟩
    have h9 : known (D + 1) t.es (lists ((rows.set 0 ⟨none, 0, []⟩).set 1 ⟨none, 0, []⟩)) (atN D 0) = [] := by rw [HTE.out, HL7.out]; exact HK7.out
    refine ⟨⟨X, c, ?_⟩, hb⟩
    show Ending.returned (.tuple #[.slice X (known (D + 1) t.es (lists ((rows.set 0 ⟨none, 0, []⟩).set 1 ⟨none, 0, []⟩)) (atN D 0)).length c, .int .i64 (if known (D + 1) t.es (lists ((rows.set 0 ⟨none, 0, []⟩).set 1 ⟨none, 0, []⟩)) (atN D 0) = [] then 13 else 0)]) = _
    rw [h9]
    rfl)
  obtain ⟨g0, g1', g2, g3, g4⟩ := id G7
  have t0 := T7.c0
  go_upto_region 7 with (go_at_call 12; (with_reducible refine HB7.out.mono ?_); rintro e w8 ⟨⟨X2, c2, rfl⟩, hb8⟩)
  obtain ⟨X', c', hv, -, -, hsl, -⟩ := id (HBO7.out.below hb8).form
  simp only [Value.slice.injEq] at hv
  obtain ⟨rfl, -, rfl⟩ := hv
  obtain ⟨bb, bo, rfl, -, hcell⟩ := hsl (by decide)
  have h7 : w8.cell? ⟨bb, bo + 7, none⟩ = some (.int .u8 8) := hcell 7 (by decide)
  clear hcell hsl g0 g1' g2 g3 g4 t0
  go_wp2
  go_ret
  exact ⟨rfl, bt hx7 hb8⟩
end Go.Proofs.Ytajjmllolaajoaa.zon
