/-
  What the laws of package table ask of its functions; the laws' own example (wakes). Conditions: 'Ctt'.
-/
import Derived.Test.YtldknkikekaifaaTbS
import Derived.Test.YtldknkikekaifaaTbX
import Derived.Test.YtldknkikekaifaaGGm
namespace Go.Proofs.Ytldknkikekaifaa.tbl
open Go.RowKit Go.Lib
open Go.Proofs.Ytldknkikekaifaa.gmt (Ok five_new)
open Go.Proofs.Ytldknkikekaifaa.anc (flat_get flat_len slv_cell bl kal kst ks bm ka)

/-- A table and an error, bytes and an error, integers and an error. -/
def TbE (base : Nat) (es : List Ent) (n : Int) (e : Ending) (w' : World) : Prop := ∃ t : TV, e = .returned (.tuple #[t.v, .int .i64 n]) ∧ t.es = es ∧ t.Own w' base
def BytE (base q : Nat) (l : List UInt8) (n : Int) (e : Ending) (w' : World) : Prop := ∃ (X : Option Addr) (c : Nat), e = .returned (.tuple #[.slice X q c, .int .i64 n]) ∧ l.length = q ∧ Own w' base 5 (.slice X q c) l
def NonE (n : Int) (e : Ending) : Prop := ∃ (X : Option Addr) (c : Nat), e = .returned (.tuple #[.slice X 0 c, .int .i64 n])
def IntE (q : Nat) (l : List Int) (e : Ending) (w' : World) : Prop := ∃ (X : Option Addr) (c : Nat), e = .returned (.tuple #[.slice X q c, .int .i64 0]) ∧ l.length = q ∧ SlV w' w'.heap.size X (ints l)
/-- Which of the first k are lost. -/
def lostN (es : List Ent) : Nat → List Int
  | 0 => []
  | k + 1 => lostN es k ++ (if (es[k]?.map Ent.ls).getD false then [(k : Int)] else [])
theorem lostN_le (es : List Ent) : ∀ k, (lostN es k).length ≤ k
  | 0 => Nat.le_refl _
  | k + 1 => by
    have := lostN_le es k
    unfold lostN
    split <;> simp <;> omega
/-- What is asked of package table, in every world behind w. -/
structure Ctt (w : World) : Prop where
  check : ∀ (c : Bool) (z d s l a : Int) (x : TV) (W : World), Below w.heap.size w W → Ok z d s l a → x.In W W.heap.size → x.es.length ≤ 1048576 → (c = true ↔ Good d x.es) → Calls Try.prog 13 #[.agg #[.int .i64 z, .int .i64 d, .int .i64 s, .int .i64 l, .int .i64 a], x.v] W fun e w' => e = .returned (.int .i64 (if c = true then 0 else 1)) ∧ Below W.heap.size W w'
  check_geo : ∀ (z d s l a : Int) (x : TV) (W : World), Below w.heap.size w W → ¬ Ok z d s l a → x.In W W.heap.size → Calls Try.prog 13 #[.agg #[.int .i64 z, .int .i64 d, .int .i64 s, .int .i64 l, .int .i64 a], x.v] W fun e w' => e = .returned (.int .i64 1) ∧ Below W.heap.size W w'
  first : ∀ (z d s l a : Int) (W : World), Below w.heap.size w W → Ok z d s l a → Calls Try.prog 8 #[.agg #[.int .i64 z, .int .i64 d, .int .i64 s, .int .i64 l, .int .i64 a]] W fun e w' => TbE W.heap.size (List.replicate (d.toNat + 1) newE) 0 e w' ∧ Below W.heap.size W w'
  first_geo : ∀ (z d s l a : Int) (W : World), Below w.heap.size w W → ¬ Ok z d s l a → Calls Try.prog 8 #[.agg #[.int .i64 z, .int .i64 d, .int .i64 s, .int .i64 l, .int .i64 a]] W fun e w' => TbE W.heap.size [] 1 e w' ∧ Below W.heap.size W w'
  bytes : ∀ (z d s l a : Int) (x : TV) (W : World), Below w.heap.size w W → Ok z d s l a → x.In W W.heap.size → Good d x.es → Calls Try.prog 9 #[.agg #[.int .i64 z, .int .i64 d, .int .i64 s, .int .i64 l, .int .i64 a], x.v] W fun e w' => BytE W.heap.size (x.es.length * 9) (encT x.es) 0 e w' ∧ Below W.heap.size W w'
  bytes_no : ∀ (z d s l a : Int) (x : TV) (W : World), Below w.heap.size w W → ¬ (Ok z d s l a ∧ Good d x.es) → x.In W W.heap.size → x.es.length ≤ 1048576 → Calls Try.prog 9 #[.agg #[.int .i64 z, .int .i64 d, .int .i64 s, .int .i64 l, .int .i64 a], x.v] W fun e w' => NonE 1 e ∧ Below W.heap.size W w'
  read : ∀ (z d s l a : Int) (A : Option Addr) (n c : Nat) (b : List UInt8) (W : World), Below w.heap.size w W → Ok z d s l a → b.length = n → n ≤ c → c ≤ maxLen → n ≤ 1048576 → Sl W W.heap.size A b → Told d b → Calls Try.prog 10 #[.agg #[.int .i64 z, .int .i64 d, .int .i64 s, .int .i64 l, .int .i64 a], .slice A n c] W fun e w' => TbE W.heap.size (entsN b (d.toNat + 1)) 0 e w' ∧ Below W.heap.size W w'
  read_no : ∀ (z d s l a : Int) (A : Option Addr) (n c : Nat) (b : List UInt8) (W : World), Below w.heap.size w W → Ok z d s l a → b.length = n → n ≤ c → c ≤ maxLen → n ≤ 1048576 → Sl W W.heap.size A b → ¬ Told d b → Calls Try.prog 10 #[.agg #[.int .i64 z, .int .i64 d, .int .i64 s, .int .i64 l, .int .i64 a], .slice A n c] W fun e w' => TbE W.heap.size [] 4 e w' ∧ Below W.heap.size W w'
  read_geo : ∀ (z d s l a : Int) (A : Option Addr) (n c : Nat) (b : List UInt8) (W : World), Below w.heap.size w W → ¬ Ok z d s l a → b.length = n → n ≤ c → c ≤ maxLen → n ≤ 1048576 → Sl W W.heap.size A b → Calls Try.prog 10 #[.agg #[.int .i64 z, .int .i64 d, .int .i64 s, .int .i64 l, .int .i64 a], .slice A n c] W fun e w' => TbE W.heap.size [] 1 e w' ∧ Below W.heap.size W w'
  lost : ∀ (z d s l a : Int) (x : TV) (W : World), Below w.heap.size w W → Ok z d s l a → x.In W W.heap.size → Good d x.es → Calls Try.prog 11 #[.agg #[.int .i64 z, .int .i64 d, .int .i64 s, .int .i64 l, .int .i64 a], x.v] W fun e w' => IntE (lostN x.es d.toNat).length (lostN x.es d.toNat) e w' ∧ Below W.heap.size W w'
  lost_no : ∀ (z d s l a : Int) (x : TV) (W : World), Below w.heap.size w W → ¬ (Ok z d s l a ∧ Good d x.es) → x.In W W.heap.size → x.es.length ≤ 1048576 → Calls Try.prog 11 #[.agg #[.int .i64 z, .int .i64 d, .int .i64 s, .int .i64 l, .int .i64 a], x.v] W fun e w' => NonE 1 e ∧ Below W.heap.size W w'
theorem Ctt.next {w w' : World} (h : Ctt w) (hb : Below w.heap.size w w') : Ctt w' where
  check := fun c z d s l a x W hW => h.check c z d s l a x W (bt hb hW)
  check_geo := fun z d s l a x W hW => h.check_geo z d s l a x W (bt hb hW)
  first := fun z d s l a W hW => h.first z d s l a W (bt hb hW)
  first_geo := fun z d s l a W hW => h.first_geo z d s l a W (bt hb hW)
  bytes := fun z d s l a x W hW => h.bytes z d s l a x W (bt hb hW)
  bytes_no := fun z d s l a x W hW => h.bytes_no z d s l a x W (bt hb hW)
  read := fun z d s l a A n c b W hW => h.read z d s l a A n c b W (bt hb hW)
  read_no := fun z d s l a A n c b W hW => h.read_no z d s l a A n c b W (bt hb hW)
  read_geo := fun z d s l a A n c b W hW => h.read_geo z d s l a A n c b W (bt hb hW)
  lost := fun z d s l a x W hW => h.lost z d s l a x W (bt hb hW)
  lost_no := fun z d s l a x W hW => h.lost_no z d s l a x W (bt hb hW)
theorem zer8_pos : 0 < crc.sum zer8 ∧ crc.sum zer8 ≤ 4294967295 := by decide +kernel
theorem newE_ok : EntOk newE := ⟨⟨by decide, by decide⟩, Int.natCast_nonneg _, by have := zer8_pos.2; show ((crc.sum zer8 : Nat) : Int) ≤ _; omega⟩
theorem new_good {d : Int} (hd : 0 ≤ d) : Good d (List.replicate (d.toNat + 1) newE) :=
  ⟨by rw [List.length_replicate]; omega, fun e he => by rw [List.eq_of_mem_replicate he]; exact newE_ok, fun e he => by rw [List.eq_of_mem_replicate (List.mem_of_getElem? he)]; rfl⟩
theorem ok_one : Ok 1 1 0 14 1 := by unfold Ok; omega
set_option maxRecDepth 100000 in
set_option maxHeartbeats 4000000 in
theorem some_one (w : World) :
    Calls Try.prog 23 #[.int .i64 0, .int .i64 0, .int .i64 0, .int .i64 0, .int .i64 0] w fun e w' => e = .returned (.agg #[.int .i64 1, .int .i64 1, .int .i64 0, .int .i64 14, .int .i64 1]) ∧ Below w.heap.size w w' := by
  go_enter Try.func23, Try.ntmps23
  go_wp2
  obtain ⟨g0, g1, g2, g3, g4⟩ := five_new w 1 1 0 14 1
  exact bodyPost_ret (v := .agg #[.int .i64 1, .int .i64 1, .int .i64 0, .int .i64 14, .int .i64 1]) (by simp [results, Try.results23, go_sem, g0, g1, g2, g3, g4]) rfl ⟨rfl, bl w _⟩
set_option maxRecDepth 100000 in
set_option maxHeartbeats 4000000 in
theorem wk_tab (w : World) (hc : Ctt w) :
    Calls Try.prog 15 #[] w fun e w' => e = .returned (.bool true) ∧ Below w.heap.size w w' := by
  have HC := Lib.hid hc
  clear hc
  go_enter Try.func15, Try.ntmps15
  go_upto_region 2 with (go_at_call 23; (with_reducible refine (some_one _).mono ?_); rintro e w1 ⟨rfl, hb1⟩)
  have hx1 := bl w1 (.cells #[.int .i64 1, .int .i64 1, .int .i64 0, .int .i64 14, .int .i64 1] 23)
  have GG := g5_new w1 1 1 0 14 1
  have B1 := bt hb1 hx1
  obtain ⟨gG, hgG⟩ : ∃ g, g = w1.heap.size := ⟨_, rfl⟩
  rw [← hgG] at GG ⊢
  have lG : gG < (w1.alloc (.cells #[.int .i64 1, .int .i64 1, .int .i64 0, .int .i64 14, .int .i64 1] 23)).heap.size := by rw [hgG]; simp
  clear hb1 hx1 hgG
  generalize w1.alloc (.cells #[.int .i64 1, .int .i64 1, .int .i64 0, .int .i64 14, .int .i64 1] 23) = w2 at *
  obtain ⟨g0, g1, g2, g3, g4⟩ := id GG
  go_upto_region 3 with (go_at_call 8; (with_reducible refine (HC.out.first 1 1 0 14 1 _ B1 ok_one).mono ?_); rintro e w3 ⟨⟨t, het, hte0, hto⟩, hb3⟩; rw [TV.v] at het; subst het; have hte1 := Lib.hid hte0; clear hte0)
  have hte := hte1.out
  have htl : t.es.length = 2 := by rw [hte]; rfl
  rw [htl]
  have hx3 := bl w3 (.cells #[.slice t.A 2 t.c] 26)
  have T3 := c1_new w3 (.slice t.A (2 : Nat) t.c) 26
  have HTI := Lib.hid ((TV.Own.inn hto).next hx3)
  have HTE := Lib.hid hte
  have HTL := Lib.hid htl
  have b23 := bt hb3 hx3
  replace GG := GG.keep b23 lG
  replace B1 := bt B1 b23
  replace lG := Nat.lt_of_lt_of_le lG b23.size
  obtain ⟨gT, hgT⟩ : ∃ g, g = w3.heap.size := ⟨_, rfl⟩
  rw [← hgT] at T3 ⊢
  clear hgT hx3 hb3 b23 hte hto htl g0 g1 g2 g3 g4
  generalize w3.alloc (.cells #[.slice t.A 2 t.c] 26) = w4 at *
  have t0 := T3.c0
  obtain ⟨g0, g1, g2, g3, g4⟩ := id GG
  have HB := Lib.hid (show Calls Try.prog 9 #[.agg #[.int .i64 1, .int .i64 1, .int .i64 0, .int .i64 14, .int .i64 1], .agg #[.slice t.A (2 : Nat) t.c]] w4 fun e w' => BytE w4.heap.size 18 (encT (List.replicate 2 newE)) 0 e w' ∧ Below w4.heap.size w4 w' from by
    have h9 := HC.out.bytes 1 1 0 14 1 t w4 B1 ok_one HTI.out (by rw [HTE.out]; exact new_good (by decide))
    unfold TV.v at h9
    rw [HTL.out, HTE.out] at h9
    exact h9)
  go_upto_region 4 with (go_at_call 9; (with_reducible refine HB.out.mono ?_); rintro e w5 ⟨⟨X, xc, rfl, hxl, hxo⟩, hb5⟩)
  obtain ⟨X', xc', hv, hx1, hx2, hxs, -⟩ := id hxo.form
  simp only [Value.slice.injEq] at hv
  obtain ⟨rfl, -, rfl⟩ := hv
  replace GG := GG.keep hb5 lG
  replace B1 := bt B1 hb5
  replace lG := Nat.lt_of_lt_of_le lG hb5.size
  have told : Told 1 (encT (List.replicate 2 newE)) ∧ entsN (encT (List.replicate 2 newE)) ((1 : Int).toNat + 1) = List.replicate 2 newE := told_of (d := 1) (by decide) (new_good (d := 1) (by decide))
  have HRD := Lib.hid (show Calls Try.prog 10 #[.agg #[.int .i64 1, .int .i64 1, .int .i64 0, .int .i64 14, .int .i64 1], .slice X (18 : Nat) xc] w5 fun e w' => TbE w5.heap.size (List.replicate 2 newE) 0 e w' ∧ Below w5.heap.size w5 w' from by
    have h9 := HC.out.read 1 1 0 14 1 X 18 xc _ w5 B1 ok_one hxl (by omega) hx2 (by omega) hxs told.1
    rw [told.2] at h9
    exact h9)
  clear g0 g1 g2 g3 g4 HB hb5 hxl hxo hx1 hx2 hxs told t0 T3 HTI HTE HTL
  obtain ⟨g0, g1, g2, g3, g4⟩ := id GG
  go_upto_region 5 with (go_at_call 10; (with_reducible refine HRD.out.mono ?_); rintro e w7 ⟨⟨u, heu, hue0, huo⟩, hb7⟩; rw [TV.v] at heu; subst heu; have hue1 := Lib.hid hue0; clear hue0)
  have hue := hue1.out
  have hul : u.es.length = 2 := by rw [hue]; rfl
  rw [hul]
  have hui := TV.Own.inn huo
  obtain ⟨b1, off, e0, hA1, hb1, c0, c1, c2, -, e1⟩ := ent_at hui.h (show 0 < u.es.length by omega)
  obtain ⟨b2, off2, f0, hA2, hb2, d0, d1, d2, -, e2⟩ := ent_at hui.h (show 1 < u.es.length by omega)
  rw [hA1] at hA2
  simp only [Option.some.injEq, Addr.mk.injEq, and_true] at hA2
  obtain ⟨rfl, rfl⟩ := hA2
  obtain rfl : newE = e0 := by rw [hue] at e1; exact Option.some.inj e1
  obtain rfl : newE = f0 := by rw [hue] at e2; exact Option.some.inj e2
  rw [hA1]
  obtain ⟨N, hN⟩ : ∃ N : Int, N = newE.sm := ⟨_, rfl⟩
  have hNp : 0 < N := by rw [hN]; show (0 : Int) < (crc.sum zer8 : Nat); have := zer8_pos.1; omega
  rw [← hN] at c1 d1
  rw [show newE.st = 0 from rfl] at c0 d0
  rw [show newE.ls = false from rfl] at c2 d2
  obtain ⟨uc, huc⟩ : ∃ x, x = u.c := ⟨_, rfl⟩
  rw [← huc]
  have hx8 := bl w7 (.cells #[.slice (some ⟨b1, off, none⟩) (2 : Nat) uc] 26)
  have U := c1_new w7 (.slice (some ⟨b1, off, none⟩) (2 : Nat) uc) 26
  replace c0 := kst hx8 hb1 c0
  replace c1 := kst hx8 hb1 c1
  replace c2 := kst hx8 hb1 c2
  replace d0 := kst hx8 hb1 d0
  replace d1 := kst hx8 hb1 d1
  replace d2 := kst hx8 hb1 d2
  have b79 := bt hb7 hx8
  replace GG := GG.keep b79 lG
  replace B1 := bt B1 b79
  replace lG := Nat.lt_of_lt_of_le lG b79.size
  replace hb1 := Nat.lt_of_lt_of_le hb1 hx8.size
  obtain ⟨gU, hgU⟩ : ∃ g, g = w7.heap.size := ⟨_, rfl⟩
  have lU : gU < (w7.alloc (.cells #[.slice (some ⟨b1, off, none⟩) (2 : Nat) uc] 26)).heap.size := by rw [hgU]; simp
  rw [← hgU] at U ⊢
  simp only [Nat.zero_mul, Nat.one_mul, Nat.add_zero] at c0 c1 c2 d0 d1 d2
  clear hgU hx8 b79 hb7 hN huc hA1 hb2 e1 e2 hui hue huo hul g0 g1 g2 g3 g4 HRD
  generalize w7.alloc (.cells #[.slice (some ⟨b1, off, none⟩) (2 : Nat) uc] 26) = w9 at *
  have u0 := U.c0
  obtain ⟨g0, g1, g2, g3, g4⟩ := id GG
  have HCK := Lib.hid (show ∀ W, Below w9.heap.size w9 W → Calls Try.prog 13 #[.agg #[.int .i64 1, .int .i64 1, .int .i64 0, .int .i64 14, .int .i64 1], .agg #[.slice none 0 0]] W fun e w' => e = .returned (.int .i64 1) ∧ Below W.heap.size W w' from fun W hW =>
    HC.out.check false 1 1 0 14 1 noTV W (bt B1 hW) ok_one (TV.Own.inn (noTV_own W 0)) (by decide) (iff_of_false Bool.false_ne_true fun h => absurd h.1 (by decide)))
  have HF := Lib.hid (show ∀ W, Below w9.heap.size w9 W → W.cell? ⟨gG, 0, none⟩ = some (.int .i64 1) ∧ W.cell? ⟨gG, 1, none⟩ = some (.int .i64 1) ∧ W.cell? ⟨gG, 2, none⟩ = some (.int .i64 0) ∧ W.cell? ⟨gG, 3, none⟩ = some (.int .i64 14) ∧ W.cell? ⟨gG, 4, none⟩ = some (.int .i64 1) ∧ W.cell? ⟨gU, 0, none⟩ = some (.slice (some ⟨b1, off, none⟩) 2 uc) ∧ W.cell? ⟨b1, off, none⟩ = some (.int .i64 0) ∧ W.cell? ⟨b1, off + 1, none⟩ = some (.int .i64 N) ∧ W.cell? ⟨b1, off + 2, none⟩ = some (.bool false) ∧ W.cell? ⟨b1, off + 3, none⟩ = some (.int .i64 0) ∧ W.cell? ⟨b1, off + 3 + 1, none⟩ = some (.int .i64 N) ∧ W.cell? ⟨b1, off + 3 + 2, none⟩ = some (.bool false) ∧ Below w9.heap.size w9 W from fun W h => ⟨kst h lG g0, kst h lG g1, kst h lG g2, kst h lG g3, kst h lG g4, kst h lU u0, kst h hb1 c0, kst h hb1 c1, kst h hb1 c2, kst h hb1 d0, kst h hb1 d1, kst h hb1 d2, h⟩)
  go_region_held3 (fun W => W.cell? ⟨gG, 0, none⟩ = some (.int .i64 1) ∧ W.cell? ⟨gG, 1, none⟩ = some (.int .i64 1) ∧ W.cell? ⟨gG, 2, none⟩ = some (.int .i64 0) ∧ W.cell? ⟨gG, 3, none⟩ = some (.int .i64 14) ∧ W.cell? ⟨gG, 4, none⟩ = some (.int .i64 1) ∧ W.cell? ⟨gU, 0, none⟩ = some (.slice (some ⟨b1, off, none⟩) 2 uc) ∧ W.cell? ⟨b1, off, none⟩ = some (.int .i64 0) ∧ W.cell? ⟨b1, off + 1, none⟩ = some (.int .i64 N) ∧ W.cell? ⟨b1, off + 2, none⟩ = some (.bool false) ∧ W.cell? ⟨b1, off + 3, none⟩ = some (.int .i64 0) ∧ W.cell? ⟨b1, off + 3 + 1, none⟩ = some (.int .i64 N) ∧ W.cell? ⟨b1, off + 3 + 2, none⟩ = some (.bool false) ∧ Below w9.heap.size w9 W)
    ((refine HF.out _ ?_; first
      | with_reducible exact hb10
      | with_reducible exact below_dr (Below.refl _ _)
      | fail))
    (first
      | (go_at_call 13; (with_reducible refine (HCK.out _ (below_dr (Below.refl _ _))).mono ?_); rintro e wq ⟨rfl, hbq⟩; have hb10 := bt (below_dr (Below.refl w9.heap.size w9)) hbq; clear hbq)
      | fail)
  go_wp2_with fail
  go_ret
  exact ⟨rfl, bt B1 hb10⟩
end Go.Proofs.Ytldknkikekaifaa.tbl
