/-
  anchor.Read: the anchor of which bytes are the encoding. Conditions: fewer than 2^32 bytes; what label.Read and label.Check answer is given.
-/
import Derived.Test.YtkpbfhjpmhgmoaaDoorAnO
namespace Go.Proofs.YtkpbfhjpmhgmoaaDoor.anc
open Go.RowKit Go.Lib
open Go.Proofs.YtkpbfhjpmhgmoaaDoor.gmt (Ok five_new check_ok check_no)
open Go.Proofs.YtkpbfhjpmhgmoaaDoor.pck (num)
open Go.Proofs.YtkpbfhjpmhgmoaaDoor.lbl (encL readL labE)

theorem parse_any (Z D : Nat) (s l a : Int) (A : Option Addr) (c n : Nat) (b : List UInt8) (w : World) (ho : Ok Z D s l a) (hn : b.length = n) (hA : Sl w w.heap.size A b) (hc : n ≤ c) (hm : c ≤ maxLen) (hl : n ≤ 4294967296) (cR : LabOk w) :
    Calls Tryd.prog 37 #[.agg #[.int .i64 Z, .int .i64 D, .int .i64 s, .int .i64 l, .int .i64 a], .slice A n c] w fun e w' => ParsedA w.heap.size (parsed Z D b) e w' ∧ Below w.heap.size w w' := by
  by_cases h17 : b.length < 17
  · rw [show parsed Z D b = none by unfold parsed; rw [if_pos h17]]
    exact parse_short Z s l a D A c n b w hn hA hc hm hl h17
  · cases hr : readL (b.drop 17) with
    | none =>
      rw [show parsed Z D b = none by unfold parsed; rw [if_neg h17, hr]]
      exact parse_nolab Z s l a D A c n b _ _ w hn hA hc hm hl (unrow_head_yes h17) rfl hr cR
    | some t =>
      have e1 : (b.drop 17).drop (1 + t.length) = b.drop (18 + t.length) := by rw [List.drop_drop]; congr 1; omega
      refine parse_go Z D s l a A c n b _ t _ _ _ _ _ (parsed Z D b) w ho hn hA hc hm hl (unrow_head_yes h17) (by rw [List.length_drop]; omega) hr cR (fun h => ?_) (fun h => ?_)
      · rw [e1] at h
        unfold parsed
        rw [if_neg h17, hr]
        simp only
        rw [if_pos h]
      · rw [e1] at h ⊢
        unfold parsed
        rw [if_neg h17, hr]
        simp only
        rw [if_neg h]
        rfl

set_option maxRecDepth 100000 in
set_option maxHeartbeats 1000000 in
theorem readA_no (z D s l a : Int) (b : Value) (w : World) (hb : ∃ A n c, b = .slice A n c) (ho : ¬ Ok z D s l a) :
    Calls Tryd.prog 13 #[.agg #[.int .i64 z, .int .i64 D, .int .i64 s, .int .i64 l, .int .i64 a], b] w fun e w' => AnsA w.heap.size noAnc 1 e w' ∧ Below w.heap.size w w' := by
  obtain ⟨A, n, c, rfl⟩ := hb
  have cG := fun W => check_no z D s l a W ho
  have GG := g5_new w z D s l a
  have B0 := bl w (.cells #[.int .i64 z, .int .i64 D, .int .i64 s, .int .i64 l, .int .i64 a] 23)
  have L0 : (w.alloc (.cells #[.int .i64 z, .int .i64 D, .int .i64 s, .int .i64 l, .int .i64 a] 23)).heap.size = w.heap.size + 1 := by simp
  have GG1 := GG.keep (bl (w.alloc (.cells #[.int .i64 z, .int .i64 D, .int .i64 s, .int .i64 l, .int .i64 a] 23)) (.cells #[.int .i64 0, .int .i64 0, .int .i64 0, .int .i64 0, .int .i64 0, .string ⟨#[]⟩, .slice none 0 0] 26)) (by omega)
  have Q0 := sev_new (w.alloc (.cells #[.int .i64 z, .int .i64 D, .int .i64 s, .int .i64 l, .int .i64 a] 23)) (.int .i64 0) (.int .i64 0) (.int .i64 0) (.int .i64 0) (.int .i64 0) (.string ⟨#[]⟩) (.slice none 0 0) 26
  have B1 := kal B0 (.cells #[.int .i64 0, .int .i64 0, .int .i64 0, .int .i64 0, .int .i64 0, .string ⟨#[]⟩, .slice none 0 0] 26)
  have L1 : ((w.alloc (.cells #[.int .i64 z, .int .i64 D, .int .i64 s, .int .i64 l, .int .i64 a] 23)).alloc (.cells #[.int .i64 0, .int .i64 0, .int .i64 0, .int .i64 0, .int .i64 0, .string ⟨#[]⟩, .slice none 0 0] 26)).heap.size = w.heap.size + 2 := by simp
  rw [L0] at Q0
  have lw1 : w.heap.size + 2 ≤ ((w.alloc (.cells #[.int .i64 z, .int .i64 D, .int .i64 s, .int .i64 l, .int .i64 a] 23)).alloc (.cells #[.int .i64 0, .int .i64 0, .int .i64 0, .int .i64 0, .int .i64 0, .string ⟨#[]⟩, .slice none 0 0] 26)).heap.size := by omega
  clear GG B0 L0 L1
  go_enter Tryd.func13, Tryd.ntmps13
  go_upto_region 1 with fail
  generalize (w.alloc (.cells #[.int .i64 z, .int .i64 D, .int .i64 s, .int .i64 l, .int .i64 a] 23)).alloc (.cells #[.int .i64 0, .int .i64 0, .int .i64 0, .int .i64 0, .int .i64 0, .string ⟨#[]⟩, .slice none 0 0] 26) = w1 at *
  obtain ⟨g0, g1, g2, g3, g4⟩ := id GG1
  go_upto_region 2 with (go_at_call 28; (with_reducible refine (cG _).mono ?_); rintro e w2 ⟨rfl, hb2⟩)
  have Q := Q0.keep hb2 (by omega)
  have B2 := bt B1 hb2
  clear g0 g1 g2 g3 g4 GG1 Q0 B1 hb2
  obtain ⟨z0, z1, z2, z3, z4, z5, z6, f0, f1, f2, f3, f4, f5, f6⟩ := id Q
  go_wp2_with fail
  have k7 := (((((((Q.set0 (.int .i64 0)).set1 (.int .i64 0)).set2 (.int .i64 0)).set3 (.int .i64 0)).set4 (.int .i64 0)).set5 (.string ⟨#[]⟩)).set6 (.slice none 0 0))
  have hl : w.heap.size ≤ w.heap.size + 1 := by omega
  exact bodyPost_ret (v := .tuple #[.agg #[.int .i64 0, .int .i64 0, .int .i64 0, .int .i64 0, .int .i64 0, .string ⟨#[]⟩, .slice none 0 0], .int .i64 1]) (by simp [results, Tryd.results13, go_sem, k7.c0, k7.c1, k7.c2, k7.c3, k7.c4, k7.c5, k7.c6]) rfl ⟨⟨noAV, rfl, rfl, noAV_own _ _⟩, (((((((B2.setCell hl _).setCell hl _).setCell hl _).setCell hl _).setCell hl _).setCell hl _).setCell hl _)⟩

set_option maxRecDepth 100000 in
set_option maxHeartbeats 4000000 in
theorem read_none (Z D : Nat) (s l a : Int) (A : Option Addr) (c n : Nat) (b : List UInt8) (w : World) (ho : Ok Z D s l a) (hn : b.length = n) (hA : Sl w w.heap.size A b) (hc : n ≤ c) (hm : c ≤ maxLen) (hl : n ≤ 4294967296) (cR : LabOk w) (hp : parsed Z D b = none) :
    Calls Tryd.prog 13 #[.agg #[.int .i64 Z, .int .i64 D, .int .i64 s, .int .i64 l, .int .i64 a], .slice A n c] w fun e w' => AnsA w.heap.size noAnc 4 e w' ∧ Below w.heap.size w w' := by
  have cG := fun W => check_ok Z D s l a W ho
  have cP := fun (W : World) (hW : Below w.heap.size w W) => parse_any Z D s l a A c n b W ho hn (hA.next hW) hc hm hl (fun W' hW' => cR W' (bt hW hW'))
  rw [hp] at cP
  have HP := Lib.hid cP
  clear cP hn hA hc hm hl cR hp
  have GG := g5_new w Z D s l a
  have B0 := bl w (.cells #[.int .i64 Z, .int .i64 D, .int .i64 s, .int .i64 l, .int .i64 a] 23)
  have L0 : (w.alloc (.cells #[.int .i64 Z, .int .i64 D, .int .i64 s, .int .i64 l, .int .i64 a] 23)).heap.size = w.heap.size + 1 := by simp
  have GG1 := GG.keep (bl (w.alloc (.cells #[.int .i64 Z, .int .i64 D, .int .i64 s, .int .i64 l, .int .i64 a] 23)) (.cells #[.int .i64 0, .int .i64 0, .int .i64 0, .int .i64 0, .int .i64 0, .string ⟨#[]⟩, .slice none 0 0] 26)) (by omega)
  have Q0 := sev_new (w.alloc (.cells #[.int .i64 Z, .int .i64 D, .int .i64 s, .int .i64 l, .int .i64 a] 23)) (.int .i64 0) (.int .i64 0) (.int .i64 0) (.int .i64 0) (.int .i64 0) (.string ⟨#[]⟩) (.slice none 0 0) 26
  have B1 := kal B0 (.cells #[.int .i64 0, .int .i64 0, .int .i64 0, .int .i64 0, .int .i64 0, .string ⟨#[]⟩, .slice none 0 0] 26)
  have L1 : ((w.alloc (.cells #[.int .i64 Z, .int .i64 D, .int .i64 s, .int .i64 l, .int .i64 a] 23)).alloc (.cells #[.int .i64 0, .int .i64 0, .int .i64 0, .int .i64 0, .int .i64 0, .string ⟨#[]⟩, .slice none 0 0] 26)).heap.size = w.heap.size + 2 := by simp
  rw [L0] at Q0
  have lw1 : w.heap.size + 2 ≤ ((w.alloc (.cells #[.int .i64 Z, .int .i64 D, .int .i64 s, .int .i64 l, .int .i64 a] 23)).alloc (.cells #[.int .i64 0, .int .i64 0, .int .i64 0, .int .i64 0, .int .i64 0, .string ⟨#[]⟩, .slice none 0 0] 26)).heap.size := by omega
  clear GG B0 L0 L1
  go_enter Tryd.func13, Tryd.ntmps13
  go_upto_region 1 with fail
  generalize (w.alloc (.cells #[.int .i64 Z, .int .i64 D, .int .i64 s, .int .i64 l, .int .i64 a] 23)).alloc (.cells #[.int .i64 0, .int .i64 0, .int .i64 0, .int .i64 0, .int .i64 0, .string ⟨#[]⟩, .slice none 0 0] 26) = w1 at *
  obtain ⟨g0, g1, g2, g3, g4⟩ := id GG1
  go_upto_region 4 with (go_at_call 28; (with_reducible refine (cG _).mono ?_); rintro e w2 ⟨rfl, hb2⟩)
  have Q2 := Q0.keep hb2 (by omega)
  have G2 := GG1.keep hb2 (by omega)
  have B2 := bt B1 hb2
  have l2 : w.heap.size + 2 ≤ w2.heap.size := by have := hb2.size; omega
  clear g0 g1 g2 g3 g4 GG1 Q0 B1 hb2 lw1 cG w1
  obtain ⟨g0, g1, g2, g3, g4⟩ := id G2
  go_upto_region 5 with (go_at_call 37; (with_reducible refine (HP.out _ B2).mono ?_); rintro e w3 ⟨hpa, hb3⟩; obtain rfl : e = .returned (.tuple #[.agg #[.int .i64 0, .int .i64 0, .int .i64 0, .int .i64 0, .int .i64 0, .string ⟨#[]⟩, .slice none 0 0], .slice none 0 0, .int .i64 4]) := hpa)
  have hx := bl w3 (.cells #[.int .i64 0, .int .i64 0, .int .i64 0, .int .i64 0, .int .i64 0, .string ⟨#[]⟩, .slice none 0 0] 26)
  have l3 := hb3.size
  have Q := (Q2.keep hb3 (by omega)).keep hx (by omega)
  have B := bt (bt B2 hb3) hx
  clear g0 g1 g2 g3 g4 G2 Q2 B2 hb3 hx HP l3
  generalize w3.alloc (.cells #[.int .i64 0, .int .i64 0, .int .i64 0, .int .i64 0, .int .i64 0, .string ⟨#[]⟩, .slice none 0 0] 26) = w4 at *
  obtain ⟨z0, z1, z2, z3, z4, z5, z6, f0, f1, f2, f3, f4, f5, f6⟩ := id Q
  go_wp2_with fail
  have k7 := (((((((Q.set0 (.int .i64 0)).set1 (.int .i64 0)).set2 (.int .i64 0)).set3 (.int .i64 0)).set4 (.int .i64 0)).set5 (.string ⟨#[]⟩)).set6 (.slice none 0 0))
  have hl : w.heap.size ≤ w.heap.size + 1 := by omega
  exact bodyPost_ret (v := .tuple #[.agg #[.int .i64 0, .int .i64 0, .int .i64 0, .int .i64 0, .int .i64 0, .string ⟨#[]⟩, .slice none 0 0], .int .i64 4]) (by simp [results, Tryd.results13, go_sem, k7.c0, k7.c1, k7.c2, k7.c3, k7.c4, k7.c5, k7.c6]) rfl ⟨⟨noAV, rfl, rfl, noAV_own _ _⟩, (((((((B.setCell hl _).setCell hl _).setCell hl _).setCell hl _).setCell hl _).setCell hl _).setCell hl _)⟩

set_option maxRecDepth 100000 in
set_option maxHeartbeats 4000000 in
theorem read_rest (Z D : Nat) (s l a : Int) (A : Option Addr) (c n : Nat) (b : List UInt8) (x : Anc) (r : List UInt8) (w : World) (ho : Ok Z D s l a) (hn : b.length = n) (hA : Sl w w.heap.size A b) (hc : n ≤ c) (hm : c ≤ maxLen) (hl : n ≤ 4294967296) (cR : LabOk w) (hp : parsed Z D b = some (x, r)) (hr : 0 < r.length) :
    Calls Tryd.prog 13 #[.agg #[.int .i64 Z, .int .i64 D, .int .i64 s, .int .i64 l, .int .i64 a], .slice A n c] w fun e w' => AnsA w.heap.size noAnc 4 e w' ∧ Below w.heap.size w w' := by
  have cG := fun W => check_ok Z D s l a W ho
  have cP := fun (W : World) (hW : Below w.heap.size w W) => parse_any Z D s l a A c n b W ho hn (hA.next hW) hc hm hl (fun W' hW' => cR W' (bt hW hW'))
  rw [hp] at cP
  have hr' : (0 : Int) < (r.length : Int) := by omega
  have HP := Lib.hid cP
  clear cP hn hA hc hm hl cR hp
  have GG := g5_new w Z D s l a
  have B0 := bl w (.cells #[.int .i64 Z, .int .i64 D, .int .i64 s, .int .i64 l, .int .i64 a] 23)
  have L0 : (w.alloc (.cells #[.int .i64 Z, .int .i64 D, .int .i64 s, .int .i64 l, .int .i64 a] 23)).heap.size = w.heap.size + 1 := by simp
  have GG1 := GG.keep (bl (w.alloc (.cells #[.int .i64 Z, .int .i64 D, .int .i64 s, .int .i64 l, .int .i64 a] 23)) (.cells #[.int .i64 0, .int .i64 0, .int .i64 0, .int .i64 0, .int .i64 0, .string ⟨#[]⟩, .slice none 0 0] 26)) (by omega)
  have Q0 := sev_new (w.alloc (.cells #[.int .i64 Z, .int .i64 D, .int .i64 s, .int .i64 l, .int .i64 a] 23)) (.int .i64 0) (.int .i64 0) (.int .i64 0) (.int .i64 0) (.int .i64 0) (.string ⟨#[]⟩) (.slice none 0 0) 26
  have B1 := kal B0 (.cells #[.int .i64 0, .int .i64 0, .int .i64 0, .int .i64 0, .int .i64 0, .string ⟨#[]⟩, .slice none 0 0] 26)
  have L1 : ((w.alloc (.cells #[.int .i64 Z, .int .i64 D, .int .i64 s, .int .i64 l, .int .i64 a] 23)).alloc (.cells #[.int .i64 0, .int .i64 0, .int .i64 0, .int .i64 0, .int .i64 0, .string ⟨#[]⟩, .slice none 0 0] 26)).heap.size = w.heap.size + 2 := by simp
  rw [L0] at Q0
  have lw1 : w.heap.size + 2 ≤ ((w.alloc (.cells #[.int .i64 Z, .int .i64 D, .int .i64 s, .int .i64 l, .int .i64 a] 23)).alloc (.cells #[.int .i64 0, .int .i64 0, .int .i64 0, .int .i64 0, .int .i64 0, .string ⟨#[]⟩, .slice none 0 0] 26)).heap.size := by omega
  clear GG B0 L0 L1
  go_enter Tryd.func13, Tryd.ntmps13
  go_upto_region 1 with fail
  generalize (w.alloc (.cells #[.int .i64 Z, .int .i64 D, .int .i64 s, .int .i64 l, .int .i64 a] 23)).alloc (.cells #[.int .i64 0, .int .i64 0, .int .i64 0, .int .i64 0, .int .i64 0, .string ⟨#[]⟩, .slice none 0 0] 26) = w1 at *
  obtain ⟨g0, g1, g2, g3, g4⟩ := id GG1
  go_upto_region 4 with (go_at_call 28; (with_reducible refine (cG _).mono ?_); rintro e w2 ⟨rfl, hb2⟩)
  have Q2 := Q0.keep hb2 (by omega)
  have G2 := GG1.keep hb2 (by omega)
  have B2 := bt B1 hb2
  have l2 : w.heap.size + 2 ≤ w2.heap.size := by have := hb2.size; omega
  clear g0 g1 g2 g3 g4 GG1 Q0 B1 hb2 lw1 cG w1
  obtain ⟨g0, g1, g2, g3, g4⟩ := id G2
  go_upto_region 5 with (go_at_call 37; (with_reducible refine (HP.out _ B2).mono ?_); rintro e w3 ⟨hpa, hb3⟩; obtain ⟨y, X3, d3, hey, hyd, hyo⟩ := hpa; rw [AV.v] at hey; subst hey)
  have hx := bl w3 (.cells #[.int .i64 y.gen, .int .i64 y.ep, .int .i64 y.pos, .int .i64 y.seq, .int .i64 y.last, .string y.lab, .slice y.HA y.hs.length y.hc] 26)
  have l3 := hb3.size
  have F := ac_new w3 y
  have Q := (Q2.keep hb3 (by omega)).keep hx (by omega)
  have GG := (G2.keep hb3 (by omega)).keep hx (by omega)
  have B := bt (bt B2 hb3) hx
  have HY := Lib.hid (show y.Own (w3.alloc (.cells #[.int .i64 y.gen, .int .i64 y.ep, .int .i64 y.pos, .int .i64 y.seq, .int .i64 y.last, .string y.lab, .slice y.HA y.hs.length y.hc] 26)) (w.heap.size + 2) from OwnH.less (OwnH.below hyo hx) (show w.heap.size + 2 ≤ w2.heap.size from l2))
  obtain ⟨ga, hga⟩ : ∃ g, g = w3.heap.size := ⟨_, rfl⟩
  rw [← hga] at F ⊢
  have lga : ga < (w3.alloc (.cells #[.int .i64 y.gen, .int .i64 y.ep, .int .i64 y.pos, .int .i64 y.seq, .int .i64 y.last, .string y.lab, .slice y.HA y.hs.length y.hc] 26)).heap.size := by rw [hga]; simp
  have lg2 : w.heap.size + 2 ≤ ga := by omega
  have HYD := Lib.hid hyd
  clear g0 g1 g2 g3 g4 G2 Q2 B2 hb3 hx HP hyo hyd hga l2 l3
  generalize w3.alloc (.cells #[.int .i64 y.gen, .int .i64 y.ep, .int .i64 y.pos, .int .i64 y.seq, .int .i64 y.last, .string y.lab, .slice y.HA y.hs.length y.hc] 26) = w4 at *
  clear F GG HY HYD lga lg2
  obtain ⟨z0, z1, z2, z3, z4, z5, z6, f0, f1, f2, f3, f4, f5, f6⟩ := id Q
  go_wp2_with fail
  have k7 := (((((((Q.set0 (.int .i64 0)).set1 (.int .i64 0)).set2 (.int .i64 0)).set3 (.int .i64 0)).set4 (.int .i64 0)).set5 (.string ⟨#[]⟩)).set6 (.slice none 0 0))
  have hl : w.heap.size ≤ w.heap.size + 1 := by omega
  exact bodyPost_ret (v := .tuple #[.agg #[.int .i64 0, .int .i64 0, .int .i64 0, .int .i64 0, .int .i64 0, .string ⟨#[]⟩, .slice none 0 0], .int .i64 4]) (by simp [results, Tryd.results13, go_sem, k7.c0, k7.c1, k7.c2, k7.c3, k7.c4, k7.c5, k7.c6]) rfl ⟨⟨noAV, rfl, rfl, noAV_own _ _⟩, (((((((B.setCell hl _).setCell hl _).setCell hl _).setCell hl _).setCell hl _).setCell hl _).setCell hl _)⟩

set_option maxRecDepth 100000 in
set_option maxHeartbeats 4000000 in
theorem read_bad (Z D : Nat) (s l a : Int) (A : Option Addr) (c n : Nat) (b : List UInt8) (x : Anc) (w : World) (ho : Ok Z D s l a) (hn : b.length = n) (hA : Sl w w.heap.size A b) (hc : n ≤ c) (hm : c ≤ maxLen) (hl : n ≤ 4294967296) (cR : LabOk w) (hp : parsed Z D b = some (x, [])) (hlab : x.lab.size ≤ 4294967296) (cL : ∀ W, Below w.heap.size w W → ∀ t : ByteArray, t.size ≤ 4294967296 → Calls Tryd.prog 29 #[.string t] W fun e w' => e = .returned (.int .i64 (labE t.data.toList)) ∧ Below W.heap.size W w') (hg : ¬ Good Z D s l x) :
    Calls Tryd.prog 13 #[.agg #[.int .i64 Z, .int .i64 D, .int .i64 s, .int .i64 l, .int .i64 a], .slice A n c] w fun e w' => AnsA w.heap.size noAnc 4 e w' ∧ Below w.heap.size w w' := by
  have cG := fun W => check_ok Z D s l a W ho
  have cP := fun (W : World) (hW : Below w.heap.size w W) => parse_any Z D s l a A c n b W ho hn (hA.next hW) hc hm hl (fun W' hW' => cR W' (bt hW hW'))
  rw [hp] at cP
  have HP := Lib.hid cP
  clear cP hn hA hc hm hl cR hp
  have GG := g5_new w Z D s l a
  have B0 := bl w (.cells #[.int .i64 Z, .int .i64 D, .int .i64 s, .int .i64 l, .int .i64 a] 23)
  have L0 : (w.alloc (.cells #[.int .i64 Z, .int .i64 D, .int .i64 s, .int .i64 l, .int .i64 a] 23)).heap.size = w.heap.size + 1 := by simp
  have GG1 := GG.keep (bl (w.alloc (.cells #[.int .i64 Z, .int .i64 D, .int .i64 s, .int .i64 l, .int .i64 a] 23)) (.cells #[.int .i64 0, .int .i64 0, .int .i64 0, .int .i64 0, .int .i64 0, .string ⟨#[]⟩, .slice none 0 0] 26)) (by omega)
  have Q0 := sev_new (w.alloc (.cells #[.int .i64 Z, .int .i64 D, .int .i64 s, .int .i64 l, .int .i64 a] 23)) (.int .i64 0) (.int .i64 0) (.int .i64 0) (.int .i64 0) (.int .i64 0) (.string ⟨#[]⟩) (.slice none 0 0) 26
  have B1 := kal B0 (.cells #[.int .i64 0, .int .i64 0, .int .i64 0, .int .i64 0, .int .i64 0, .string ⟨#[]⟩, .slice none 0 0] 26)
  have L1 : ((w.alloc (.cells #[.int .i64 Z, .int .i64 D, .int .i64 s, .int .i64 l, .int .i64 a] 23)).alloc (.cells #[.int .i64 0, .int .i64 0, .int .i64 0, .int .i64 0, .int .i64 0, .string ⟨#[]⟩, .slice none 0 0] 26)).heap.size = w.heap.size + 2 := by simp
  rw [L0] at Q0
  have lw1 : w.heap.size + 2 ≤ ((w.alloc (.cells #[.int .i64 Z, .int .i64 D, .int .i64 s, .int .i64 l, .int .i64 a] 23)).alloc (.cells #[.int .i64 0, .int .i64 0, .int .i64 0, .int .i64 0, .int .i64 0, .string ⟨#[]⟩, .slice none 0 0] 26)).heap.size := by omega
  clear GG B0 L0 L1
  go_enter Tryd.func13, Tryd.ntmps13
  go_upto_region 1 with fail
  generalize (w.alloc (.cells #[.int .i64 Z, .int .i64 D, .int .i64 s, .int .i64 l, .int .i64 a] 23)).alloc (.cells #[.int .i64 0, .int .i64 0, .int .i64 0, .int .i64 0, .int .i64 0, .string ⟨#[]⟩, .slice none 0 0] 26) = w1 at *
  obtain ⟨g0, g1, g2, g3, g4⟩ := id GG1
  go_upto_region 4 with (go_at_call 28; (with_reducible refine (cG _).mono ?_); rintro e w2 ⟨rfl, hb2⟩)
  have Q2 := Q0.keep hb2 (by omega)
  have G2 := GG1.keep hb2 (by omega)
  have B2 := bt B1 hb2
  have l2 : w.heap.size + 2 ≤ w2.heap.size := by have := hb2.size; omega
  clear g0 g1 g2 g3 g4 GG1 Q0 B1 hb2 lw1 cG w1
  obtain ⟨g0, g1, g2, g3, g4⟩ := id G2
  go_upto_region 5 with (go_at_call 37; (with_reducible refine (HP.out _ B2).mono ?_); rintro e w3 ⟨hpa, hb3⟩; obtain ⟨y, X3, d3, hey, hyd, hyo⟩ := hpa; rw [AV.v] at hey; subst hey)
  have hx := bl w3 (.cells #[.int .i64 y.gen, .int .i64 y.ep, .int .i64 y.pos, .int .i64 y.seq, .int .i64 y.last, .string y.lab, .slice y.HA y.hs.length y.hc] 26)
  have l3 := hb3.size
  have F := ac_new w3 y
  have Q := (Q2.keep hb3 (by omega)).keep hx (by omega)
  have GG := (G2.keep hb3 (by omega)).keep hx (by omega)
  have B := bt (bt B2 hb3) hx
  have HY := Lib.hid (show y.Own (w3.alloc (.cells #[.int .i64 y.gen, .int .i64 y.ep, .int .i64 y.pos, .int .i64 y.seq, .int .i64 y.last, .string y.lab, .slice y.HA y.hs.length y.hc] 26)) (w.heap.size + 2) from OwnH.less (OwnH.below hyo hx) (show w.heap.size + 2 ≤ w2.heap.size from l2))
  obtain ⟨ga, hga⟩ : ∃ g, g = w3.heap.size := ⟨_, rfl⟩
  rw [← hga] at F ⊢
  have lga : ga < (w3.alloc (.cells #[.int .i64 y.gen, .int .i64 y.ep, .int .i64 y.pos, .int .i64 y.seq, .int .i64 y.last, .string y.lab, .slice y.HA y.hs.length y.hc] 26)).heap.size := by rw [hga]; simp
  have lg2 : w.heap.size + 2 ≤ ga := by omega
  have HYD := Lib.hid hyd
  clear g0 g1 g2 g3 g4 G2 Q2 B2 hb3 hx HP hyo hyd hga l2 l3
  generalize w3.alloc (.cells #[.int .i64 y.gen, .int .i64 y.ep, .int .i64 y.pos, .int .i64 y.seq, .int .i64 y.last, .string y.lab, .slice y.HA y.hs.length y.hc] 26) = w4 at *
  have l4 := lga
  have lb4 : w.heap.size + 2 ≤ w4.heap.size := by omega
  have hin := HY.out.inn
  have cC := fun (W : World) (hW : Below w4.heap.size w4 W) => check_any false Z D s l a (labE y.lab.data.toList) y W ho (hin.next hW) (fun W' hW' => cL W' (bt B (bt hW hW')) y.lab (by have := congrArg Anc.lab HYD.out; rw [show y.lab = x.lab from this]; exact hlab)) (iff_of_false Bool.false_ne_true (by rw [HYD.out]; exact fun h => hg (by have e := congrArg Anc.lab HYD.out; unfold Good; rw [← show y.lab = x.lab from e]; exact h)))
  unfold AV.v at cC
  obtain ⟨g0, g1, g2, g3, g4⟩ := id GG
  obtain ⟨c0, c1, c2, c3, c4, c5, c6⟩ := id F
  have HC := Lib.hid cC
  clear cC hin
  go_upto_region 6 with (go_at_call 15; (with_reducible refine (HC.out _ (Below.refl _ _)).mono ?_); rintro e w5 ⟨rfl, hb5⟩)
  replace Q := Q.keep hb5 (by omega)
  replace B := bt B hb5
  clear g0 g1 g2 g3 g4 c0 c1 c2 c3 c4 c5 c6 F GG HY HYD hb5 HC
  obtain ⟨z0, z1, z2, z3, z4, z5, z6, f0, f1, f2, f3, f4, f5, f6⟩ := id Q
  go_wp2_with fail
  have k7 := (((((((Q.set0 (.int .i64 0)).set1 (.int .i64 0)).set2 (.int .i64 0)).set3 (.int .i64 0)).set4 (.int .i64 0)).set5 (.string ⟨#[]⟩)).set6 (.slice none 0 0))
  have hl : w.heap.size ≤ w.heap.size + 1 := by omega
  exact bodyPost_ret (v := .tuple #[.agg #[.int .i64 0, .int .i64 0, .int .i64 0, .int .i64 0, .int .i64 0, .string ⟨#[]⟩, .slice none 0 0], .int .i64 4]) (by simp [results, Tryd.results13, go_sem, k7.c0, k7.c1, k7.c2, k7.c3, k7.c4, k7.c5, k7.c6]) rfl ⟨⟨noAV, rfl, rfl, noAV_own _ _⟩, (((((((B.setCell hl _).setCell hl _).setCell hl _).setCell hl _).setCell hl _).setCell hl _).setCell hl _)⟩

set_option maxRecDepth 100000 in
set_option maxHeartbeats 4000000 in
theorem read_good (Z D : Nat) (s l a : Int) (A : Option Addr) (c n : Nat) (b : List UInt8) (x : Anc) (w : World) (ho : Ok Z D s l a) (hn : b.length = n) (hA : Sl w w.heap.size A b) (hc : n ≤ c) (hm : c ≤ maxLen) (hl : n ≤ 4294967296) (cR : LabOk w) (hp : parsed Z D b = some (x, [])) (hlab : x.lab.size ≤ 4294967296) (cL : ∀ W, Below w.heap.size w W → ∀ t : ByteArray, t.size ≤ 4294967296 → Calls Tryd.prog 29 #[.string t] W fun e w' => e = .returned (.int .i64 (labE t.data.toList)) ∧ Below W.heap.size W w') (hg : Good Z D s l x) :
    Calls Tryd.prog 13 #[.agg #[.int .i64 Z, .int .i64 D, .int .i64 s, .int .i64 l, .int .i64 a], .slice A n c] w fun e w' => AnsA w.heap.size x 0 e w' ∧ Below w.heap.size w w' := by
  have cG := fun W => check_ok Z D s l a W ho
  have cP := fun (W : World) (hW : Below w.heap.size w W) => parse_any Z D s l a A c n b W ho hn (hA.next hW) hc hm hl (fun W' hW' => cR W' (bt hW hW'))
  rw [hp] at cP
  have HP := Lib.hid cP
  clear cP hn hA hc hm hl cR hp
  have GG := g5_new w Z D s l a
  have B0 := bl w (.cells #[.int .i64 Z, .int .i64 D, .int .i64 s, .int .i64 l, .int .i64 a] 23)
  have L0 : (w.alloc (.cells #[.int .i64 Z, .int .i64 D, .int .i64 s, .int .i64 l, .int .i64 a] 23)).heap.size = w.heap.size + 1 := by simp
  have GG1 := GG.keep (bl (w.alloc (.cells #[.int .i64 Z, .int .i64 D, .int .i64 s, .int .i64 l, .int .i64 a] 23)) (.cells #[.int .i64 0, .int .i64 0, .int .i64 0, .int .i64 0, .int .i64 0, .string ⟨#[]⟩, .slice none 0 0] 26)) (by omega)
  have Q0 := sev_new (w.alloc (.cells #[.int .i64 Z, .int .i64 D, .int .i64 s, .int .i64 l, .int .i64 a] 23)) (.int .i64 0) (.int .i64 0) (.int .i64 0) (.int .i64 0) (.int .i64 0) (.string ⟨#[]⟩) (.slice none 0 0) 26
  have B1 := kal B0 (.cells #[.int .i64 0, .int .i64 0, .int .i64 0, .int .i64 0, .int .i64 0, .string ⟨#[]⟩, .slice none 0 0] 26)
  have L1 : ((w.alloc (.cells #[.int .i64 Z, .int .i64 D, .int .i64 s, .int .i64 l, .int .i64 a] 23)).alloc (.cells #[.int .i64 0, .int .i64 0, .int .i64 0, .int .i64 0, .int .i64 0, .string ⟨#[]⟩, .slice none 0 0] 26)).heap.size = w.heap.size + 2 := by simp
  rw [L0] at Q0
  have lw1 : w.heap.size + 2 ≤ ((w.alloc (.cells #[.int .i64 Z, .int .i64 D, .int .i64 s, .int .i64 l, .int .i64 a] 23)).alloc (.cells #[.int .i64 0, .int .i64 0, .int .i64 0, .int .i64 0, .int .i64 0, .string ⟨#[]⟩, .slice none 0 0] 26)).heap.size := by omega
  clear GG B0 L0 L1
  go_enter Tryd.func13, Tryd.ntmps13
  go_upto_region 1 with fail
  generalize (w.alloc (.cells #[.int .i64 Z, .int .i64 D, .int .i64 s, .int .i64 l, .int .i64 a] 23)).alloc (.cells #[.int .i64 0, .int .i64 0, .int .i64 0, .int .i64 0, .int .i64 0, .string ⟨#[]⟩, .slice none 0 0] 26) = w1 at *
  obtain ⟨g0, g1, g2, g3, g4⟩ := id GG1
  go_upto_region 4 with (go_at_call 28; (with_reducible refine (cG _).mono ?_); rintro e w2 ⟨rfl, hb2⟩)
  have Q2 := Q0.keep hb2 (by omega)
  have G2 := GG1.keep hb2 (by omega)
  have B2 := bt B1 hb2
  have l2 : w.heap.size + 2 ≤ w2.heap.size := by have := hb2.size; omega
  clear g0 g1 g2 g3 g4 GG1 Q0 B1 hb2 lw1 cG w1
  obtain ⟨g0, g1, g2, g3, g4⟩ := id G2
  go_upto_region 5 with (go_at_call 37; (with_reducible refine (HP.out _ B2).mono ?_); rintro e w3 ⟨hpa, hb3⟩; obtain ⟨y, X3, d3, hey, hyd, hyo⟩ := hpa; rw [AV.v] at hey; subst hey)
  have hx := bl w3 (.cells #[.int .i64 y.gen, .int .i64 y.ep, .int .i64 y.pos, .int .i64 y.seq, .int .i64 y.last, .string y.lab, .slice y.HA y.hs.length y.hc] 26)
  have l3 := hb3.size
  have F := ac_new w3 y
  have Q := (Q2.keep hb3 (by omega)).keep hx (by omega)
  have GG := (G2.keep hb3 (by omega)).keep hx (by omega)
  have B := bt (bt B2 hb3) hx
  have HY := Lib.hid (show y.Own (w3.alloc (.cells #[.int .i64 y.gen, .int .i64 y.ep, .int .i64 y.pos, .int .i64 y.seq, .int .i64 y.last, .string y.lab, .slice y.HA y.hs.length y.hc] 26)) (w.heap.size + 2) from OwnH.less (OwnH.below hyo hx) (show w.heap.size + 2 ≤ w2.heap.size from l2))
  obtain ⟨ga, hga⟩ : ∃ g, g = w3.heap.size := ⟨_, rfl⟩
  rw [← hga] at F ⊢
  have lga : ga < (w3.alloc (.cells #[.int .i64 y.gen, .int .i64 y.ep, .int .i64 y.pos, .int .i64 y.seq, .int .i64 y.last, .string y.lab, .slice y.HA y.hs.length y.hc] 26)).heap.size := by rw [hga]; simp
  have lg2 : w.heap.size + 2 ≤ ga := by omega
  have HYD := Lib.hid hyd
  clear g0 g1 g2 g3 g4 G2 Q2 B2 hb3 hx HP hyo hyd hga l2 l3
  generalize w3.alloc (.cells #[.int .i64 y.gen, .int .i64 y.ep, .int .i64 y.pos, .int .i64 y.seq, .int .i64 y.last, .string y.lab, .slice y.HA y.hs.length y.hc] 26) = w4 at *
  have l4 := lga
  have lb4 : w.heap.size + 2 ≤ w4.heap.size := by omega
  have hin := HY.out.inn
  have cC := fun (W : World) (hW : Below w4.heap.size w4 W) => check_any true Z D s l a (labE y.lab.data.toList) y W ho (hin.next hW) (fun W' hW' => cL W' (bt B (bt hW hW')) y.lab (by have := congrArg Anc.lab HYD.out; rw [show y.lab = x.lab from this]; exact hlab)) (iff_of_true rfl (by rw [HYD.out]; have e := congrArg Anc.lab HYD.out; rw [show y.lab = x.lab from e]; exact hg))
  unfold AV.v at cC
  obtain ⟨g0, g1, g2, g3, g4⟩ := id GG
  obtain ⟨c0, c1, c2, c3, c4, c5, c6⟩ := id F
  have HC := Lib.hid cC
  clear cC hin
  go_upto_region 7 with (go_at_call 15; (with_reducible refine (HC.out _ (Below.refl _ _)).mono ?_); rintro e w5 ⟨rfl, hb5⟩)
  replace Q := Q.keep hb5 (by omega)
  replace B := bt B hb5
  replace F := F.keep hb5 l4
  have hyo := OwnH.below HY.out hb5
  clear g0 g1 g2 g3 g4 c0 c1 c2 c3 c4 c5 c6 GG hb5 HC
  obtain ⟨c0, c1, c2, c3, c4, c5, c6⟩ := id F
  obtain ⟨z0, z1, z2, z3, z4, z5, z6, f0, f1, f2, f3, f4, f5, f6⟩ := id Q
  go_wp2_with fail
  have k7 := (((((((Q.set0 (.int .i64 y.gen)).set1 (.int .i64 y.ep)).set2 (.int .i64 y.pos)).set3 (.int .i64 y.seq)).set4 (.int .i64 y.last)).set5 (.string y.lab)).set6 (.slice y.HA y.hs.length y.hc))
  have hgl : w.heap.size + 1 < w.heap.size + 2 := by omega
  have h7 := (((((((hyo.cell_set (o := 0) hgl (.int .i64 y.gen)).cell_set (o := 1) hgl (.int .i64 y.ep)).cell_set (o := 2) hgl (.int .i64 y.pos)).cell_set (o := 3) hgl (.int .i64 y.seq)).cell_set (o := 4) hgl (.int .i64 y.last)).cell_set (o := 5) hgl (.string y.lab)).cell_set (o := 6) hgl (.slice y.HA y.hs.length y.hc))
  have hl : w.heap.size ≤ w.heap.size + 1 := by omega
  exact bodyPost_ret (v := .tuple #[.agg #[.int .i64 y.gen, .int .i64 y.ep, .int .i64 y.pos, .int .i64 y.seq, .int .i64 y.last, .string y.lab, .slice y.HA y.hs.length y.hc], .int .i64 0]) (by simp [results, Tryd.results13, go_sem, k7.c0, k7.c1, k7.c2, k7.c3, k7.c4, k7.c5, k7.c6]) rfl ⟨⟨y, rfl, HYD.out, OwnH.less h7 (by omega)⟩, (((((((B.setCell hl _).setCell hl _).setCell hl _).setCell hl _).setCell hl _).setCell hl _).setCell hl _)⟩

end Go.Proofs.YtkpbfhjpmhgmoaaDoor.anc
