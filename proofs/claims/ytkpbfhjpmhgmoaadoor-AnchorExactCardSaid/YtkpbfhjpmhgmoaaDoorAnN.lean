/-
  anchor.parse: the anchor that bytes begin with. Conditions: fewer than 2^32 bytes; what label.Read answers is given.
-/
import Derived.Test.YtkpbfhjpmhgmoaaDoorAnL
namespace Go.Proofs.YtkpbfhjpmhgmoaaDoor.anc
open Go.RowKit Go.Lib
open Go.Proofs.YtkpbfhjpmhgmoaaDoor.gmt (Ok five_new check_ok check_no)
open Go.Proofs.YtkpbfhjpmhgmoaaDoor.pck (num unrow Unrowed unrow_any)
open Go.Proofs.YtkpbfhjpmhgmoaaDoor.lbl (encL readL labE)

/-- What Unrow answers, by cases. -/
theorem unrow_no (n m : Nat) (A A' : Option Addr) (c c' : Nat) (l : List UInt8) (ss : List Int) (x : Int) (w : World) (hn : l.length = n) (hm : ss.length = m) (hl : m ≤ 1048576) (hc : n ≤ c) (hx : c ≤ maxLen) (hl2 : n ≤ 4294967296) (hr : unrow ss l = .error x) (hA : Sl w w.heap.size A l) (hA' : SlV w w.heap.size A' (ints ss)) :
    Calls Tryd.prog 55 #[.slice A n c, .slice A' m c'] w fun e w' => e = .returned (.tuple #[.slice none 0 0, .slice none 0 0, .int .i64 x]) ∧ Below w.heap.size w w' := by
  refine (unrow_any n m A A' c c' l ss w hn hm hl hc hx hl2 hA hA').mono fun e w' h => ⟨?_, h.2⟩
  have := h.1
  rw [hr] at this
  exact this
def UnrowQ (base p q : Nat) (ns : List Int) (r : List UInt8) (e : Ending) (w' : World) : Prop := ∃ A c X d, e = .returned (.tuple #[.slice A p c, .slice X q d, .int .i64 0]) ∧ p ≤ c ∧ c ≤ maxLen ∧ OwnV w' base 3 (.slice A p c) (ints ns) ∧ q ≤ d ∧ d ≤ maxLen ∧ Own w' base 5 (.slice X q d) r
theorem unrow_yes (n m p q : Nat) (A A' : Option Addr) (c c' : Nat) (l r : List UInt8) (ss ns : List Int) (w : World) (hn : l.length = n) (hm : ss.length = m) (hl : m ≤ 1048576) (hc : n ≤ c) (hx : c ≤ maxLen) (hl2 : n ≤ 4294967296) (hr : unrow ss l = .ok (ns, r)) (hp : ns.length = p) (hq : r.length = q) (hA : Sl w w.heap.size A l) (hA' : SlV w w.heap.size A' (ints ss)) :
    Calls Tryd.prog 55 #[.slice A n c, .slice A' m c'] w fun e w' => UnrowQ w.heap.size p q ns r e w' ∧ Below w.heap.size w w' := by
  refine (unrow_any n m A A' c c' l ss w hn hm hl hc hx hl2 hA hA').mono fun e w' h => ⟨?_, h.2⟩
  have := h.1
  rw [hr] at this
  obtain ⟨v, u, rfl, o1, o2⟩ := this
  obtain ⟨X1, c1, hv1, k1, k2, -, -⟩ := id o1.form
  obtain ⟨X2, c2, hv2, k3, k4, -, -⟩ := id o2.form
  subst hv1 hv2
  rw [ints_length, hp] at *
  rw [hq] at *
  exact ⟨X1, c1, X2, c2, rfl, k1, k2, o1, k3, k4, o2⟩

/-- What parse answers. -/
def ParsedA (base : Nat) (p : Option (Anc × List UInt8)) (e : Ending) (w' : World) : Prop :=
  match p with
  | none => e = .returned (.tuple #[noAV.v, .slice none 0 0, .int .i64 4])
  | some (x, r) => ∃ (y : AV) (X : Option Addr) (c : Nat), e = .returned (.tuple #[y.v, .slice X r.length c, .int .i64 0]) ∧ y.d = x ∧ y.Own w' base
theorem parsedA_none (base : Nat) (w : World) : ParsedA base none (.returned (.tuple #[.agg #[.int .i64 0, .int .i64 0, .int .i64 0, .int .i64 0, .int .i64 0, .string ⟨#[]⟩, .slice none 0 0], .slice none 0 0, .int .i64 4])) w := rfl
theorem parsedA_no {res : Option (Anc × List UInt8)} (h : res = none) (base : Nat) (w : World) : ParsedA base res (.returned (.tuple #[.agg #[.int .i64 0, .int .i64 0, .int .i64 0, .int .i64 0, .int .i64 0, .string ⟨#[]⟩, .slice none 0 0], .slice none 0 0, .int .i64 4])) w := by
  rw [h]
  rfl
theorem parsedA_yes {res : Option (Anc × List UInt8)} {x : Anc} {r : List UInt8} (h : res = some (x, r)) (y : AV) (X : Option Addr) (n c base : Nat) (w : World) (hn : r.length = n) (hd : y.d = x) (ho : y.Own w base) : ParsedA base res (.returned (.tuple #[y.v, .slice X n c, .int .i64 0])) w := by
  rw [h]
  exact ⟨y, X, c, by rw [hn], hd, ho⟩
theorem unrow_head_no {b : List UInt8} (h : b.length < 17) : unrow [4, 4, 4, 4, 1] b = .error 4 := by rw [unrow_head, if_pos h]
theorem unrow_head_yes {b : List UInt8} (h : ¬ b.length < 17) : unrow [4, 4, 4, 4, 1] b = .ok ([(num (b.take 4) : Int), (num ((b.drop 4).take 4) : Int), (num ((b.drop 8).take 4) : Int), (num ((b.drop 12).take 4) : Int), (num ((b.drop 16).take 1) : Int)], b.drop 17) := by rw [unrow_head, if_neg h]

set_option maxRecDepth 100000 in
set_option maxHeartbeats 1000000 in
theorem parse_short (z s l a : Int) (D : Nat) (A : Option Addr) (c n : Nat) (b : List UInt8) (w : World) (hn : b.length = n) (hA : Sl w w.heap.size A b) (hc : n ≤ c) (hm : c ≤ maxLen) (hl : n ≤ 4294967296) (h17 : b.length < 17) :
    Calls Tryd.prog 37 #[.agg #[.int .i64 z, .int .i64 D, .int .i64 s, .int .i64 l, .int .i64 a], .slice A n c] w fun e w' => ParsedA w.heap.size none e w' ∧ Below w.heap.size w w' := by
  have GG := g5_new w z D s l a
  have B0 := bl w (.cells #[.int .i64 z, .int .i64 D, .int .i64 s, .int .i64 l, .int .i64 a] 23)
  have L0 : (w.alloc (.cells #[.int .i64 z, .int .i64 D, .int .i64 s, .int .i64 l, .int .i64 a] 23)).heap.size = w.heap.size + 1 := by simp
  have GG1 := GG.keep (bl (w.alloc (.cells #[.int .i64 z, .int .i64 D, .int .i64 s, .int .i64 l, .int .i64 a] 23)) (.cells #[.int .i64 0, .int .i64 0, .int .i64 0, .int .i64 0, .int .i64 0, .string ⟨#[]⟩, .slice none 0 0] 26)) (by omega)
  have Q0 := sev_new (w.alloc (.cells #[.int .i64 z, .int .i64 D, .int .i64 s, .int .i64 l, .int .i64 a] 23)) (.int .i64 0) (.int .i64 0) (.int .i64 0) (.int .i64 0) (.int .i64 0) (.string ⟨#[]⟩) (.slice none 0 0) 26
  have B1 := kal B0 (.cells #[.int .i64 0, .int .i64 0, .int .i64 0, .int .i64 0, .int .i64 0, .string ⟨#[]⟩, .slice none 0 0] 26)
  have L1 : ((w.alloc (.cells #[.int .i64 z, .int .i64 D, .int .i64 s, .int .i64 l, .int .i64 a] 23)).alloc (.cells #[.int .i64 0, .int .i64 0, .int .i64 0, .int .i64 0, .int .i64 0, .string ⟨#[]⟩, .slice none 0 0] 26)).heap.size = w.heap.size + 2 := by simp
  rw [L0] at Q0
  have lw1 : w.heap.size + 2 ≤ ((w.alloc (.cells #[.int .i64 z, .int .i64 D, .int .i64 s, .int .i64 l, .int .i64 a] 23)).alloc (.cells #[.int .i64 0, .int .i64 0, .int .i64 0, .int .i64 0, .int .i64 0, .string ⟨#[]⟩, .slice none 0 0] 26)).heap.size := by omega
  clear GG B0 L0 L1
  go_enter Tryd.func37, Tryd.ntmps37
  go_upto_region 1 with fail
  generalize (w.alloc (.cells #[.int .i64 z, .int .i64 D, .int .i64 s, .int .i64 l, .int .i64 a] 23)).alloc (.cells #[.int .i64 0, .int .i64 0, .int .i64 0, .int .i64 0, .int .i64 0, .string ⟨#[]⟩, .slice none 0 0] 26) = w1 at *
  have cU := fun (W : World) (X : Option Addr) (d : Nat) (hW : Below w.heap.size w W) (h : SlV W W.heap.size X (ints [4, 4, 4, 4, 1])) => unrow_no n 5 A X c d b [4, 4, 4, 4, 1] 4 W hn rfl (by omega) hc hm hl (unrow_head_no h17) (hA.next hW) h
  have HU := Lib.hid cU
  clear cU hn hA hc hm hl h17
  go_upto_region 2 with (first
    | (go_at_call 33; (with_reducible refine (sizes_at _).mono ?_); rintro e w2 ⟨⟨A2, y2, rfl, -, p2⟩, hb2⟩)
    | (go_at_call 55; (with_reducible refine (HU.out _ _ _ (bt B1 hb2) (slv_own p2)).mono ?_); rintro e w3 ⟨rfl, hb3⟩))
  have Q := (Q0.keep hb2 (by omega)).keep hb3 (by have := hb2.size; omega)
  have B3 := bt (bt B1 hb2) hb3
  clear Q0 GG1 B1 hb2 hb3 p2
  obtain ⟨z0, z1, z2, z3, z4, z5, z6, f0, f1, f2, f3, f4, f5, f6⟩ := id Q
  go_wp2_with fail
  have k7 := (((((((Q.set0 (.int .i64 0)).set1 (.int .i64 0)).set2 (.int .i64 0)).set3 (.int .i64 0)).set4 (.int .i64 0)).set5 (.string ⟨#[]⟩)).set6 (.slice none 0 0))
  have hl : w.heap.size ≤ w.heap.size + 1 := by omega
  exact bodyPost_ret (v := .tuple #[.agg #[.int .i64 0, .int .i64 0, .int .i64 0, .int .i64 0, .int .i64 0, .string ⟨#[]⟩, .slice none 0 0], .slice none 0 0, .int .i64 4]) (by simp [results, Tryd.results37, go_sem, k7.c0, k7.c1, k7.c2, k7.c3, k7.c4, k7.c5, k7.c6]) rfl ⟨parsedA_none _ _, (((((((B3.setCell hl _).setCell hl _).setCell hl _).setCell hl _).setCell hl _).setCell hl _).setCell hl _)⟩


/-- What label.Read is told to answer. -/
def LabOk (w : World) : Prop := ∀ W, Below w.heap.size w W → ∀ (l : List UInt8) (n : Nat) (A : Option Addr) (c : Nat), l.length = n → Sl W W.heap.size A l → n ≤ c → c ≤ maxLen → Calls Tryd.prog 56 #[.slice A n c] W (LabR l W)
theorem labR_none {l : List UInt8} {W : World} {e : Ending} {w' : World} (h : LabR l W e w') (hr : readL l = none) : e = .returned (.tuple #[.string ⟨#[]⟩, .int .i64 0, .int .i64 4]) ∧ Below W.heap.size W w' := by
  have := h.1
  rw [hr] at this
  exact ⟨this, h.2⟩
theorem labR_some {l t : List UInt8} {W : World} {e : Ending} {w' : World} (h : LabR l W e w') (hr : readL l = some t) : e = .returned (.tuple #[.string ⟨t.toArray⟩, .int .i64 (1 + (t.length : Int)), .int .i64 0]) ∧ Below W.heap.size W w' := by
  have := h.1
  rw [hr] at this
  exact ⟨this, h.2⟩

set_option maxRecDepth 100000 in
set_option maxHeartbeats 1000000 in
theorem parse_nolab (z s l a : Int) (D : Nat) (A : Option Addr) (c n : Nat) (b r0 : List UInt8) (ns : List Int) (w : World) (hn : b.length = n) (hA : Sl w w.heap.size A b) (hc : n ≤ c) (hm : c ≤ maxLen) (hl : n ≤ 4294967296)
    (hu : unrow [4, 4, 4, 4, 1] b = .ok (ns, r0)) (hns : ns.length = 5) (hr : readL r0 = none) (cR : LabOk w) :
    Calls Tryd.prog 37 #[.agg #[.int .i64 z, .int .i64 D, .int .i64 s, .int .i64 l, .int .i64 a], .slice A n c] w fun e w' => ParsedA w.heap.size none e w' ∧ Below w.heap.size w w' := by
  have GG := g5_new w z D s l a
  have B0 := bl w (.cells #[.int .i64 z, .int .i64 D, .int .i64 s, .int .i64 l, .int .i64 a] 23)
  have L0 : (w.alloc (.cells #[.int .i64 z, .int .i64 D, .int .i64 s, .int .i64 l, .int .i64 a] 23)).heap.size = w.heap.size + 1 := by simp
  have GG1 := GG.keep (bl (w.alloc (.cells #[.int .i64 z, .int .i64 D, .int .i64 s, .int .i64 l, .int .i64 a] 23)) (.cells #[.int .i64 0, .int .i64 0, .int .i64 0, .int .i64 0, .int .i64 0, .string ⟨#[]⟩, .slice none 0 0] 26)) (by omega)
  have Q0 := sev_new (w.alloc (.cells #[.int .i64 z, .int .i64 D, .int .i64 s, .int .i64 l, .int .i64 a] 23)) (.int .i64 0) (.int .i64 0) (.int .i64 0) (.int .i64 0) (.int .i64 0) (.string ⟨#[]⟩) (.slice none 0 0) 26
  have B1 := kal B0 (.cells #[.int .i64 0, .int .i64 0, .int .i64 0, .int .i64 0, .int .i64 0, .string ⟨#[]⟩, .slice none 0 0] 26)
  have L1 : ((w.alloc (.cells #[.int .i64 z, .int .i64 D, .int .i64 s, .int .i64 l, .int .i64 a] 23)).alloc (.cells #[.int .i64 0, .int .i64 0, .int .i64 0, .int .i64 0, .int .i64 0, .string ⟨#[]⟩, .slice none 0 0] 26)).heap.size = w.heap.size + 2 := by simp
  rw [L0] at Q0
  have lw1 : w.heap.size + 2 ≤ ((w.alloc (.cells #[.int .i64 z, .int .i64 D, .int .i64 s, .int .i64 l, .int .i64 a] 23)).alloc (.cells #[.int .i64 0, .int .i64 0, .int .i64 0, .int .i64 0, .int .i64 0, .string ⟨#[]⟩, .slice none 0 0] 26)).heap.size := by omega
  clear GG B0 L0 L1
  go_enter Tryd.func37, Tryd.ntmps37
  go_upto_region 1 with fail
  generalize (w.alloc (.cells #[.int .i64 z, .int .i64 D, .int .i64 s, .int .i64 l, .int .i64 a] 23)).alloc (.cells #[.int .i64 0, .int .i64 0, .int .i64 0, .int .i64 0, .int .i64 0, .string ⟨#[]⟩, .slice none 0 0] 26) = w1 at *
  obtain ⟨q0, hq0⟩ : ∃ q, r0.length = q := ⟨_, rfl⟩
  have cU := fun (W : World) (X : Option Addr) (d : Nat) (hW : Below w.heap.size w W) (h : SlV W W.heap.size X (ints [4, 4, 4, 4, 1])) => unrow_yes n 5 5 q0 A X c d b r0 [4, 4, 4, 4, 1] ns W hn rfl (by omega) hc hm hl hu hns hq0 (hA.next hW) h
  have HU := Lib.hid cU
  have cL := fun (W : World) (X : Option Addr) (d : Nat) (hW : Below w.heap.size w W) (h : Sl W W.heap.size X r0) (h1 : q0 ≤ d) (h2 : d ≤ maxLen) => (cR W hW r0 q0 X d hq0 h h1 h2).mono fun e w' h => labR_none h hr
  have HL := Lib.hid cL
  clear cU hn hA hc hm hl hu cL cR hr hq0
  go_upto_region 5 with (first
    | (go_at_call 33; (with_reducible refine (sizes_at _).mono ?_); rintro e w2 ⟨⟨A2, y2, rfl, -, p2⟩, hb2⟩)
    | (go_at_call 55; (with_reducible refine (HU.out _ _ _ (bt B1 hb2) (slv_own p2)).mono ?_); rintro e w3 ⟨⟨A3, y3, X3, d3, rfl, k1, k2, o3, k3, k4, p3⟩, hb3⟩)
    | (go_at_call 56; (with_reducible refine (HL.out _ _ _ (bt (bt B1 hb2) hb3) (own_slh p3).sl k3 k4).mono ?_); rintro e w4 ⟨rfl, hb4⟩))
  have l2 := hb2.size
  have l3 := hb3.size
  have Q := ((Q0.keep hb2 (by omega)).keep hb3 (by omega)).keep hb4 (by omega)
  have B4 := bt (bt (bt B1 hb2) hb3) hb4
  clear Q0 GG1 B1 hb2 hb3 hb4 p2 l2 l3 o3 p3 k1 k2 k3 k4 HL HU
  obtain ⟨z0, z1, z2, z3, z4, z5, z6, f0, f1, f2, f3, f4, f5, f6⟩ := id Q
  go_wp2_with fail
  have k7 := (((((((Q.set0 (.int .i64 0)).set1 (.int .i64 0)).set2 (.int .i64 0)).set3 (.int .i64 0)).set4 (.int .i64 0)).set5 (.string ⟨#[]⟩)).set6 (.slice none 0 0))
  have hl : w.heap.size ≤ w.heap.size + 1 := by omega
  exact bodyPost_ret (v := .tuple #[.agg #[.int .i64 0, .int .i64 0, .int .i64 0, .int .i64 0, .int .i64 0, .string ⟨#[]⟩, .slice none 0 0], .slice none 0 0, .int .i64 4]) (by simp [results, Tryd.results37, go_sem, k7.c0, k7.c1, k7.c2, k7.c3, k7.c4, k7.c5, k7.c6]) rfl ⟨parsedA_none _ _, (((((((B4.setCell hl _).setCell hl _).setCell hl _).setCell hl _).setCell hl _).setCell hl _).setCell hl _)⟩
end Go.Proofs.YtkpbfhjpmhgmoaaDoor.anc
