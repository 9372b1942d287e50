/-
  Package table: Bytes, Lost. Conditions: rows shorter than 2^20.
-/
import Derived.Test.YtldknkikekaifaaTbC
import Derived.Test.YtldknkikekaifaaPkC
import Derived.Deep.RegionHeld3
namespace Go.Proofs.Ytldknkikekaifaa.tbl
open Go.RowKit Go.Lib
open Go.Proofs.Ytldknkikekaifaa.gmt (Ok five_new check_ok check_no)
open Go.Proofs.Ytldknkikekaifaa.anc (flat_get flat_len slv_cell bl kal kst ks bm ka row_form row_below)
open Go.Proofs.Ytldknkikekaifaa.pck (le le_length AllFit Fits Sz bytesOf Rowed row_any)

theorem tcheck_not (z d s l a : Int) (x : TV) (w : World) (hno : ¬ (Ok z d s l a ∧ Good d x.es)) (hx : x.In w w.heap.size) (hn : x.es.length ≤ 1048576) :
    Calls Try.prog 13 #[.agg #[.int .i64 z, .int .i64 d, .int .i64 s, .int .i64 l, .int .i64 a], x.v] w fun e w' => e = .returned (.int .i64 1) ∧ Below w.heap.size w w' := by
  by_cases ho : Ok z d s l a
  · obtain ⟨D, rfl⟩ : ∃ D : Nat, d = D := ⟨d.toNat, by have := ho.2.1; omega⟩
    exact tcheck_any false z s l a D x w ho hx hn (iff_of_false Bool.false_ne_true fun h => hno ⟨ho, h⟩)
  · exact tcheck_no z d s l a x w ho
theorem tcheck_yes (z d s l a : Int) (x : TV) (w : World) (ho : Ok z d s l a) (hg : Good d x.es) (hx : x.In w w.heap.size) :
    Calls Try.prog 13 #[.agg #[.int .i64 z, .int .i64 d, .int .i64 s, .int .i64 l, .int .i64 a], x.v] w fun e w' => e = .returned (.int .i64 0) ∧ Below w.heap.size w w' := by
  obtain ⟨D, rfl⟩ : ∃ D : Nat, d = D := ⟨d.toNat, by have := ho.2.1; omega⟩
  exact tcheck_any true z s l a D x w ho hx (by have := hg.1; have := ho.2.1; omega) (iff_of_true rfl hg)
set_option maxRecDepth 100000 in
set_option maxHeartbeats 4000000 in
theorem tbytes_no (z d s l a : Int) (x : TV) (w : World) (hno : ¬ (Ok z d s l a ∧ Good d x.es)) (hx : x.In w w.heap.size) (hn : x.es.length ≤ 1048576) :
    Calls Try.prog 9 #[.agg #[.int .i64 z, .int .i64 d, .int .i64 s, .int .i64 l, .int .i64 a], x.v] w fun e w' => NonE 1 e ∧ Below w.heap.size w w' := by
  have HC := Lib.hid (show ∀ W, Below w.heap.size w W → Calls Try.prog 13 #[.agg #[.int .i64 z, .int .i64 d, .int .i64 s, .int .i64 l, .int .i64 a], .agg #[.slice x.A x.es.length x.c]] W fun e w' => e = .returned (.int .i64 1) ∧ Below W.heap.size W w' from fun W h => tcheck_not z d s l a x W hno (hx.next h) hn)
  unfold TV.v
  have s1 : (w.alloc (.cells #[.int .i64 z, .int .i64 d, .int .i64 s, .int .i64 l, .int .i64 a] 23)).heap.size = w.heap.size + 1 := by simp
  have hx2 := bl (w.alloc (.cells #[.int .i64 z, .int .i64 d, .int .i64 s, .int .i64 l, .int .i64 a] 23)) (.cells #[.slice x.A x.es.length x.c] 26)
  have GG := (g5_new w z d s l a).keep hx2 (by omega)
  have T1 := c1_new (w.alloc (.cells #[.int .i64 z, .int .i64 d, .int .i64 s, .int .i64 l, .int .i64 a] 23)) (.slice x.A x.es.length x.c) 26
  rw [s1] at T1
  have hb0 := kal (bl w (.cells #[.int .i64 z, .int .i64 d, .int .i64 s, .int .i64 l, .int .i64 a] 23)) (.cells #[.slice x.A x.es.length x.c] 26)
  have l1 : w.heap.size + 1 < ((w.alloc (.cells #[.int .i64 z, .int .i64 d, .int .i64 s, .int .i64 l, .int .i64 a] 23)).alloc (.cells #[.slice x.A x.es.length x.c] 26)).heap.size := by simp
  clear s1 hx2
  clear hno hx hn
  go_enter Try.func9, Try.ntmps9
  go_upto_region 1 with fail
  generalize (w.alloc (.cells #[.int .i64 z, .int .i64 d, .int .i64 s, .int .i64 l, .int .i64 a] 23)).alloc (.cells #[.slice x.A x.es.length x.c] 26) = w0 at *
  have t0 := T1.c0
  obtain ⟨g0, g1, g2, g3, g4⟩ := id GG
  go_wp2_with (go_at_call 13; (with_reducible refine (HC.out _ hb0).mono ?_); rintro e w1 ⟨rfl, hb1⟩)
  go_ret2
  exact ⟨⟨_, _, rfl⟩, bt hb0 hb1⟩
set_option maxRecDepth 100000 in
set_option maxHeartbeats 4000000 in
theorem tlost_no (z d s l a : Int) (x : TV) (w : World) (hno : ¬ (Ok z d s l a ∧ Good d x.es)) (hx : x.In w w.heap.size) (hn : x.es.length ≤ 1048576) :
    Calls Try.prog 11 #[.agg #[.int .i64 z, .int .i64 d, .int .i64 s, .int .i64 l, .int .i64 a], x.v] w fun e w' => NonE 1 e ∧ Below w.heap.size w w' := by
  have HC := Lib.hid (show ∀ W, Below w.heap.size w W → Calls Try.prog 13 #[.agg #[.int .i64 z, .int .i64 d, .int .i64 s, .int .i64 l, .int .i64 a], .agg #[.slice x.A x.es.length x.c]] W fun e w' => e = .returned (.int .i64 1) ∧ Below W.heap.size W w' from fun W h => tcheck_not z d s l a x W hno (hx.next h) hn)
  unfold TV.v
  have s1 : (w.alloc (.cells #[.int .i64 z, .int .i64 d, .int .i64 s, .int .i64 l, .int .i64 a] 23)).heap.size = w.heap.size + 1 := by simp
  have hx2 := bl (w.alloc (.cells #[.int .i64 z, .int .i64 d, .int .i64 s, .int .i64 l, .int .i64 a] 23)) (.cells #[.slice x.A x.es.length x.c] 26)
  have GG := (g5_new w z d s l a).keep hx2 (by omega)
  have T1 := c1_new (w.alloc (.cells #[.int .i64 z, .int .i64 d, .int .i64 s, .int .i64 l, .int .i64 a] 23)) (.slice x.A x.es.length x.c) 26
  rw [s1] at T1
  have hb0 := kal (bl w (.cells #[.int .i64 z, .int .i64 d, .int .i64 s, .int .i64 l, .int .i64 a] 23)) (.cells #[.slice x.A x.es.length x.c] 26)
  have l1 : w.heap.size + 1 < ((w.alloc (.cells #[.int .i64 z, .int .i64 d, .int .i64 s, .int .i64 l, .int .i64 a] 23)).alloc (.cells #[.slice x.A x.es.length x.c] 26)).heap.size := by simp
  clear s1 hx2
  clear hno hx hn
  go_enter Try.func11, Try.ntmps11
  go_upto_region 1 with fail
  generalize (w.alloc (.cells #[.int .i64 z, .int .i64 d, .int .i64 s, .int .i64 l, .int .i64 a] 23)).alloc (.cells #[.slice x.A x.es.length x.c] 26) = w0 at *
  have t0 := T1.c0
  obtain ⟨g0, g1, g2, g3, g4⟩ := id GG
  go_wp2_with (go_at_call 13; (with_reducible refine (HC.out _ hb0).mono ?_); rintro e w1 ⟨rfl, hb1⟩)
  go_ret2
  exact ⟨⟨_, _, rfl⟩, bt hb0 hb1⟩
/-- A table's numbers, each with its size. -/
def entP (e : Ent) : List (Int × Int) := [(e.st, 4), (e.sm, 4), (((lsN e.ls : Nat) : Int), 1)]
def prs (es : List Ent) : List (Int × Int) := es.flatMap entP
def entNs (e : Ent) : List Int := [e.st, e.sm, ((lsN e.ls : Nat) : Int)]
def nums (es : List Ent) : List Int := es.flatMap entNs
theorem nums_length : ∀ es : List Ent, (nums es).length = es.length * 3
  | [] => rfl
  | e :: es => by
    have h : nums (e :: es) = entNs e ++ nums es := by simp [nums]
    rw [h, List.length_append, nums_length es, List.length_cons, show (entNs e).length = 3 from rfl]
    omega
theorem nums_next {es : List Ent} {k : Nat} {e : Ent} (h : es[k]? = some e) : nums (es.take (k + 1)) = nums (es.take k) ++ entNs e := by
  rw [List.take_add_one, h]
  simp [nums]
theorem prs_fst (es : List Ent) : (prs es).map (·.1) = nums es := by
  unfold prs nums
  rw [List.map_flatMap]
  rfl
theorem prs_snd : ∀ es : List Ent, ints ((prs es).map (·.2)) = reps row41 es.length
  | [] => rfl
  | e :: es => by
    have h : prs (e :: es) = entP e ++ prs es := by simp [prs]
    rw [h, List.map_append, ints_append, prs_snd es, List.length_cons]
    unfold reps
    rw [List.replicate_succ, List.flatten_cons]
    rfl
theorem prs_bytes (es : List Ent) : bytesOf (prs es) = encT es := by
  unfold bytesOf prs encT
  rw [List.flatMap_assoc]
  refine congrArg (fun f => List.flatMap f es) (funext fun e => ?_)
  simp [entP, entB]
theorem prs_fit {es : List Ent} (h : ∀ e ∈ es, EntOk e) : AllFit (prs es) := by
  intro p hp
  obtain ⟨e, he, hq⟩ := List.mem_flatMap.1 hp
  obtain ⟨⟨h1, h2⟩, h3, h4⟩ := h e he
  have hl := lsN_le e.ls
  simp only [entP, List.mem_cons, List.not_mem_nil, or_false] at hq
  rcases hq with rfl | rfl | rfl
  · exact ⟨4, e.st.toNat, rfl, by omega, .inr (.inr rfl), by omega⟩
  · exact ⟨4, e.sm.toNat, rfl, by omega, .inr (.inr rfl), by omega⟩
  · exact ⟨1, lsN e.ls, rfl, rfl, .inl rfl, by omega⟩
theorem prs_length (es : List Ent) : (prs es).length = es.length * 3 := by
  have h := congrArg List.length (prs_fst es)
  rw [List.length_map, nums_length] at h
  exact h
theorem flag_n (c : Bool) (w : World) :
    Calls Try.prog 29 #[.bool c] w fun e w' => e = .returned (.int .i64 ((lsN c : Nat) : Int)) ∧ w = w' := by
  have h := flag_at c w
  cases c <;> exact h
theorem owns_sl {w : World} {base n c : Nat} {e : TypeId} {A : Option Addr} {vs : List Value} (h : w.ownsRow base e 1 (.slice A n c) n vs) : SlV w w.heap.size A vs := by
  obtain ⟨A', c', hv, -, -, hs⟩ := row_form h
  simp only [Value.slice.injEq] at hv
  obtain ⟨rfl, -, -⟩ := hv
  exact hs
/-- The numbers and their sizes as bytes. -/
theorem row_t (es : List Ent) (n q : Nat) (A A' : Option Addr) (c c' : Nat) (W : World) (hn : es.length * 3 = n) (hq : es.length * 9 = q) (hl : n ≤ 1048576) (hf : ∀ e ∈ es, EntOk e)
    (hA : SlV W W.heap.size A (ints (nums es))) (hA' : SlV W W.heap.size A' (reps row41 es.length)) :
    Calls Try.prog 30 #[.slice A n c, .slice A' n c'] W fun e w' => BytE W.heap.size q (encT es) 0 e w' ∧ Below W.heap.size W w' := by
  refine (row_any n A A' c c' (prs es) W (by rw [prs_length]; exact hn) hl (by rw [prs_fst]; exact hA) (by rw [prs_snd]; exact hA')).mono ?_
  rintro e w' ⟨hr, hb⟩
  refine ⟨?_, hb⟩
  rcases hr with ⟨-, v, rfl, ho⟩ | ⟨hno, -⟩
  · rw [prs_bytes] at ho
    obtain ⟨X, c2, hv, -, -⟩ := ho.form
    have hlen : (encT es).length = q := by rw [encT_length]; exact hq
    rw [hlen] at hv
    exact ⟨X, c2, by rw [hv], hlen, by rw [hv] at ho; exact ho⟩
  · exact absurd (prs_fit hf) hno
set_option maxRecDepth 100000 in
set_option maxHeartbeats 4000000 in
theorem tbytes_ok (z s l a : Int) (D : Nat) (x : TV) (w : World) (ho : Ok z D s l a) (hx : x.In w w.heap.size) (hg : Good D x.es) :
    Calls Try.prog 9 #[.agg #[.int .i64 z, .int .i64 D, .int .i64 s, .int .i64 l, .int .i64 a], x.v] w fun e w' => BytE w.heap.size (x.es.length * 9) (encT x.es) 0 e w' ∧ Below w.heap.size w w' := by
  have HC := Lib.hid (show ∀ W, Below w.heap.size w W → Calls Try.prog 13 #[.agg #[.int .i64 z, .int .i64 D, .int .i64 s, .int .i64 l, .int .i64 a], .agg #[.slice x.A x.es.length x.c]] W fun e w' => e = .returned (.int .i64 0) ∧ Below W.heap.size W w' from fun W h => tcheck_yes z D s l a x W ho hg (hx.next h))
  have o2 := ho.2.1
  have hD : D ≤ 4 := by omega
  have hD1 : 1 ≤ D := by omega
  unfold TV.v
  have s1 : (w.alloc (.cells #[.int .i64 z, .int .i64 D, .int .i64 s, .int .i64 l, .int .i64 a] 23)).heap.size = w.heap.size + 1 := by simp
  have hx2 := bl (w.alloc (.cells #[.int .i64 z, .int .i64 D, .int .i64 s, .int .i64 l, .int .i64 a] 23)) (.cells #[.slice x.A x.es.length x.c] 26)
  have GG := (g5_new w z D s l a).keep hx2 (by omega)
  have T1 := c1_new (w.alloc (.cells #[.int .i64 z, .int .i64 D, .int .i64 s, .int .i64 l, .int .i64 a] 23)) (.slice x.A x.es.length x.c) 26
  rw [s1] at T1
  have hb0 := kal (bl w (.cells #[.int .i64 z, .int .i64 D, .int .i64 s, .int .i64 l, .int .i64 a] 23)) (.cells #[.slice x.A x.es.length x.c] 26)
  have l1 : w.heap.size + 1 < ((w.alloc (.cells #[.int .i64 z, .int .i64 D, .int .i64 s, .int .i64 l, .int .i64 a] 23)).alloc (.cells #[.slice x.A x.es.length x.c] 26)).heap.size := by simp
  clear s1 hx2
  have HX := Lib.hid (hx.next hb0)
  have HG := Lib.hid hg
  obtain ⟨n, hnn⟩ : ∃ n, n = x.es.length := ⟨_, rfl⟩
  have hn5 : n ≤ 5 := by have := hg.1; omega
  have HN := Lib.hid hnn
  have HND := Lib.hid (show n = D + 1 by have := hg.1; omega)
  rw [← hnn] at HC hb0 T1 l1 GG ⊢
  clear ho hx hg o2 hnn
  have cT := fun W => tableSizes_at z s l a D W hD1 hD
  go_enter Try.func9, Try.ntmps9
  go_upto_region 1 with fail
  rw [← HN.out] at HX
  generalize (w.alloc (.cells #[.int .i64 z, .int .i64 D, .int .i64 s, .int .i64 l, .int .i64 a] 23)).alloc (.cells #[.slice x.A n x.c] 26) = w0 at *
  have t0 := T1.c0
  obtain ⟨g0, g1, g2, g3, g4⟩ := id GG
  go_upto_region 5 with (go_at_call 13; (with_reducible refine (HC.out _ hb0).mono ?_); rintro e w1 ⟨rfl, hb1⟩)
  replace GG := GG.keep hb1 (by omega)
  replace T1 := T1.keep hb1 l1
  replace HX := Lib.hid (HX.out.next hb1)
  replace hb0 := bt hb0 hb1
  replace l1 := Nat.lt_of_lt_of_le l1 hb1.size
  clear g0 g1 g2 g3 g4 hb1 t0 w0 HC
  have t0 := T1.c0
  go_wp2_with fail
  go_loopw [7, 19] (fun v i w' => ∃ k : Nat, k ≤ n ∧ i = .int .i64 k ∧ OwnV w' w1.heap.size 3 v (ints (nums (x.es.take k))) ∧ Below w1.heap.size w1 w') (fun _ i _ => n - (RowKit.intOf i).toNat)
  case atStart => exact ⟨0, by omega, rfl, ownV_nil _ _ _, Below.refl _ _⟩
  case round =>
    obtain ⟨w6, rfl⟩ : ∃ x, x = wr := ⟨wr, rfl⟩
    obtain ⟨k, hk, rfl, own, hbr⟩ := hrel
    clear t0
    by_cases hlt : k < n
    · have j1 : (k : Int) < (n : Int) := by omega
      obtain ⟨b1, off, u, hA2, hb2, c0, c1, c2, hu, e2⟩ := ent_at (HX.out.next hbr).h (show k < x.es.length by have := HN.out; omega)
      rw [hA2]
      have HT := Lib.hid (show ints (nums (x.es.take (k + 1))) = ints (nums (x.es.take k)) ++ ints (entNs u) by rw [nums_next e2, ints_append])
      have hlen : (ints (nums (x.es.take k))).length ≤ 15 := by
        rw [ints_length, nums_length, List.length_take]
        omega
      have HL := Lib.hid hlen
      obtain ⟨st, hst0⟩ : ∃ q, q = u.st := ⟨_, rfl⟩
      obtain ⟨sm, hsm0⟩ : ∃ q, q = u.sm := ⟨_, rfl⟩
      obtain ⟨ls, hls0⟩ : ∃ q, q = u.ls := ⟨_, rfl⟩
      rw [← hst0] at c0
      rw [← hsm0] at c1
      rw [← hls0] at c2
      obtain ⟨fl, hfl0⟩ : ∃ q : Int, q = ((lsN ls : Nat) : Int) := ⟨_, rfl⟩
      have HU := Lib.hid (show ints (entNs u) = [.int .i64 st, .int .i64 sm, .int .i64 fl] by rw [hfl0, hls0, hst0, hsm0]; rfl)
      have cF := fun W => flag_n ls W
      rw [← hfl0] at cF
      have hbe := bl w6 (.cells #[.int .i64 st, .int .i64 sm, .bool ls] 47)
      have XE := heap_alloc_new w6 (.cells #[.int .i64 st, .int .i64 sm, .bool ls] 47)
      have lE : w6.heap.size < (w6.alloc (.cells #[.int .i64 st, .int .i64 sm, .bool ls] 47)).heap.size := by simp
      have l6 := hbr.size
      have hob : ∀ q, u7.ownBlock = some q → q < w6.heap.size := fun q hq => (World.ownsRow.lt own q hq).2
      replace own := own.below hbe
      replace hbr := bt hbr hbe
      clear hA2 hu e2 hst0 hsm0 hls0 hfl0 hlen
      go_upto_region 8 with fail
      obtain ⟨gE, hgE⟩ : ∃ g, g = w6.heap.size := ⟨_, rfl⟩
      rw [← hgE] at XE lE l6 hob ⊢
      clear hgE hbe c0 c1 c2 hb2
      generalize w6.alloc (.cells #[.int .i64 st, .int .i64 sm, .bool ls] 47) = w7 at *
      have e0 : w7.cell? ⟨gE, 0, none⟩ = some (.int .i64 st) := by rw [cell_of_row _ _ _ _ _ _ XE]; rfl
      have e1 : w7.cell? ⟨gE, 1, none⟩ = some (.int .i64 sm) := by rw [cell_of_row _ _ _ _ _ _ XE]; rfl
      have e3 : w7.cell? ⟨gE, 2, none⟩ = some (.bool ls) := by rw [cell_of_row _ _ _ _ _ _ XE]; rfl
      have sb : ∀ W : World, SlV (W.alloc (.cells #[.int .i64 st, .int .i64 sm, .int .i64 fl] 3)) (W.alloc (.cells #[.int .i64 st, .int .i64 sm, .int .i64 fl] 3)).heap.size (some ⟨W.heap.size, 0, none⟩) [.int .i64 st, .int .i64 sm, .int .i64 fl] := fun W => SlV.of_block (heap_alloc_new W _) rfl (by simp)
      have l7 := hbr.size
      have HF := Lib.hid (show ∀ W, Below w7.heap.size w7 W → W.cell? ⟨gE, 0, none⟩ = some (.int .i64 st) ∧ W.cell? ⟨gE, 1, none⟩ = some (.int .i64 sm) ∧ W.cell? ⟨gE, 2, none⟩ = some (.bool ls) ∧ Below w1.heap.size w1 W from fun W h => ⟨kst h lE e0, kst h lE e1, kst h lE e3, hbr.trans (h.mono l7)⟩)
      have HF2 := Lib.hid (show ∀ (W : World), (w7.alloc (.cells #[.int .i64 st, .int .i64 sm, .int .i64 fl] 3)).drew.grownBy W u7.ownBlock → Below w1.heap.size w1 W → W.cell? ⟨gE, 0, none⟩ = some (.int .i64 st) ∧ W.cell? ⟨gE, 1, none⟩ = some (.int .i64 sm) ∧ W.cell? ⟨gE, 2, none⟩ = some (.bool ls) ∧ Below w1.heap.size w1 W from fun W hg hb => by
        have hcell : ∀ (o : Nat) (v : Value), w7.cell? ⟨gE, o, none⟩ = some v → W.cell? ⟨gE, o, none⟩ = some v := fun o v hv => hg.cell (kst (below_dr (bl w7 _)) lE hv) (fun k => Nat.lt_irrefl _ (hob gE k.symm))
        exact ⟨hcell _ _ e0, hcell _ _ e1, hcell _ _ e3, hb⟩)
      have HI1 := Lib.hid (show ∀ u ∈ [Value.int .i64 st, .int .i64 sm, .int .i64 fl], u.oneCell' = true by intro u hu; simp only [List.mem_cons, List.not_mem_nil, or_false] at hu; rcases hu with rfl | rfl | rfl <;> rfl)
      have HSRC := Lib.hid (show ∀ W : World, Src Try.prog 1 35 (.slice (some ⟨W.heap.size, 0, none⟩) 3 3) 3 [.int .i64 st, .int .i64 sm, .int .i64 fl] (W.alloc (.cells #[.int .i64 st, .int .i64 sm, .int .i64 fl] 3)).drew from fun W => ((sb W).below (below_dr (Below.refl _ _))).src HI1.out Try.underlying35 3)
      clear sb
      have HL1 := Lib.hid (show (ints (nums (x.es.take k))).length + 3 ≤ maxLen by have := HL.out; unfold maxLen; omega)
      have HL2 := Lib.hid (show ((ints (nums (x.es.take k))).length + 3) * 8 ≤ 140737488355328 by have := HL.out; omega)
      have HL3 := Lib.hid (show w1.heap.size ≤ (w7.alloc (.cells #[.int .i64 st, .int .i64 sm, .int .i64 fl] 3)).drew.heap.size from Nat.le_trans l7 (bl w7 (.cells #[.int .i64 st, .int .i64 sm, .int .i64 fl] 3)).size)
      clear HL
      go_region_held3 (fun W => W.cell? ⟨gE, 0, none⟩ = some (.int .i64 st) ∧ W.cell? ⟨gE, 1, none⟩ = some (.int .i64 sm) ∧ W.cell? ⟨gE, 2, none⟩ = some (.bool ls) ∧ Below w1.heap.size w1 W)
        (first
          | exact HF.out _ (below_dr (Below.refl _ _))
          | exact HF.out _ (below_dr (bl w7 _))
          | exact hS9
          | fail)
        (first
          | (go_at_call 29; (with_reducible refine (cF _).mono ?_); rintro e w' ⟨rfl, rfl⟩)
          | (refine step_appV _ rfl (.tmp 23) (.tmp 31) _ _ rfl w1.heap.size 3 tvI _ (ints (nums (x.es.take k))) rfl ?_ _ [.int .i64 st, .int .i64 sm, .int .i64 fl] rfl ?_ ?_ ?_ ?_ ?_; (focus (exact (own.alloc _).drew)); (focus (exact HSRC.out _)); (focus (exact HL1.out)); (focus (exact HL2.out)); (focus (exact HL3.out)); intro v9 w9 own9 hg9 hat9; have hb9 : Below w1.heap.size w1 w9 := (below_dr (hbr.alloc l7 _)).grown hg9 HL3.out (fun q hq => (World.ownsRow.lt own q hq).1); have hS9 : w9.cell? ⟨gE, 0, none⟩ = some (.int .i64 st) ∧ w9.cell? ⟨gE, 1, none⟩ = some (.int .i64 sm) ∧ w9.cell? ⟨gE, 2, none⟩ = some (.bool ls) ∧ Below w1.heap.size w1 w9 := HF2.out _ hg9 hb9)
          | fail)
      all_goals
        have own10 := own9
        rw [← HU.out, ← HT.out] at own10
        clear HF HF2 HSRC HI1 HL1 HL2 HL3 cF own9 HU HT
        go_wp2_with fail
        go_roundw
        case rel => exact ⟨k + 1, by omega, by go_num, own10, hb9⟩
        case measure => simp [RowKit.intOf]; omega
    · have j1 : ¬ (k : Int) < (n : Int) := by omega
      rw [List.take_of_length_le (by have := HN.out; omega)] at own
      obtain ⟨X, c, rfl, -, -, sl, -⟩ := own.form
      have hnl : (ints (nums x.es)).length = n * 3 := by rw [ints_length, nums_length, HN.out]
      rw [hnl]
      obtain ⟨m, hm⟩ : ∃ m, m = n * 3 := ⟨_, rfl⟩
      rw [← hm]
      obtain ⟨g0, g1, g2, g3, g4⟩ := id (GG.keep hbr (by omega))
      have HRW := Lib.hid (show ∀ (W : World) (A' : Option Addr) (c' : Nat), Below w6.heap.size w6 W → SlV W W.heap.size A' (reps row41 (D + 1)) → Calls Try.prog 30 #[.slice X m c, .slice A' ((D + 1) * 3 : Nat) c'] W fun e w' => BytE W.heap.size (n * 9) (encT x.es) 0 e w' ∧ Below W.heap.size W w' from fun W A' c' hW hA' => by
        have h1 : m = (D + 1) * 3 := by rw [hm, HND.out]
        rw [← h1]
        exact row_t x.es m (n * 9) X A' c c' W (by rw [hm, HN.out]) (by rw [HN.out]) (by omega) HG.out.2.1 (sl.next hW) (by rw [← HN.out, HND.out]; exact hA'))
      have hb6 := bt hb0 hbr
      clear hm hnl HX T1 own sl
      go_wp2_with (first
        | (go_at_call 31; (with_reducible refine (cT _).mono ?_); rintro e w8 ⟨⟨A3, c3, rfl, o3⟩, hb8⟩; have sl3 := owns_sl o3)
        | (go_at_call 30; (with_reducible refine (HRW.out _ _ _ hb8 sl3).mono ?_); rintro e w9 ⟨⟨X9, c9, rfl, hl9, o9⟩, hb9⟩))
      go_ret2
      exact ⟨⟨_, _, rfl, hl9, o9.less (by have := hb6.size; have := hb8.size; omega)⟩, bt (bt hb6 hb8) hb9⟩
end Go.Proofs.Ytldknkikekaifaa.tbl
