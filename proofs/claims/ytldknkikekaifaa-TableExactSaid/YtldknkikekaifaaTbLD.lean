/-
  The law TableExact, walked. Conditions: 'Ctt'.
-/
import Derived.Test.YtldknkikekaifaaTbP
import Derived.Test.YtldknkikekaifaaTbO
import Derived.Test.YtldknkikekaifaaKeepInts
import Derived.Deep.CutRange
namespace Go.Proofs.Ytldknkikekaifaa.tbl
open Go.RowKit Go.Lib
open Go.Proofs.Ytldknkikekaifaa.gmt (Ok five_new)
open Go.Proofs.Ytldknkikekaifaa.anc (flat_get flat_len slv_cell bl kal kst ks bm ka row_form)

/-- Bytes, integers and an error: known where there is none. -/
def BytX (q : Nat) (l : List UInt8) (n : Int) (e : Ending) (w' : World) : Prop := ∃ (X : Option Addr) (c : Nat), e = .returned (.tuple #[.slice X q c, .int .i64 n]) ∧ (n = 0 → Sl w' w'.heap.size X l)
def IntX (q : Nat) (l : List Int) (n : Int) (e : Ending) (w' : World) : Prop := ∃ (X : Option Addr) (c : Nat), e = .returned (.tuple #[.slice X q c, .int .i64 n]) ∧ (n = 0 → SlV w' w'.heap.size X (ints l))
theorem first_ex (z d s l a : Int) (w : World) (hc : Ctt w) : ∃ (es : List Ent) (n : Int), (∀ W, Below w.heap.size w W → Calls Try.prog 8 #[.agg #[.int .i64 z, .int .i64 d, .int .i64 s, .int .i64 l, .int .i64 a]] W fun e w' => TbE W.heap.size es n e w' ∧ Below W.heap.size W w') ∧
    (Ok z d s l a → es = List.replicate (d.toNat + 1) newE ∧ n = 0) ∧ (¬ Ok z d s l a → es = [] ∧ n = 1) := by
  by_cases ho : Ok z d s l a
  · exact ⟨_, _, fun W hW => hc.first z d s l a W hW ho, fun _ => ⟨rfl, rfl⟩, fun h => absurd ho h⟩
  · exact ⟨_, _, fun W hW => hc.first_geo z d s l a W hW ho, fun h => absurd h ho, fun _ => ⟨rfl, rfl⟩⟩
theorem bytes_ex (z d s l a : Int) (es : List Ent) (w : World) (hc : Ctt w) : ∃ (q : Nat) (L : List UInt8) (n : Int), (∀ (u : TV) W, Below w.heap.size w W → u.In W W.heap.size → u.es = es → u.es.length ≤ 1048576 → Calls Try.prog 9 #[.agg #[.int .i64 z, .int .i64 d, .int .i64 s, .int .i64 l, .int .i64 a], u.v] W fun e w' => BytX q L n e w' ∧ Below W.heap.size W w') ∧
    (Ok z d s l a ∧ Good d es → q = es.length * 9 ∧ L = encT es ∧ n = 0) ∧ (¬ (Ok z d s l a ∧ Good d es) → q = 0 ∧ n = 1) := by
  by_cases h : Ok z d s l a ∧ Good d es
  · refine ⟨es.length * 9, encT es, 0, fun u W hW hu he _ => ?_, fun _ => ⟨rfl, rfl, rfl⟩, fun k => absurd h k⟩
    subst he
    refine (hc.bytes z d s l a u W hW h.1 hu h.2).mono ?_
    rintro e w' ⟨⟨X, c, rfl, -, ho⟩, hb⟩
    exact ⟨⟨X, c, rfl, fun _ => own_sl ho⟩, hb⟩
  · refine ⟨0, [], 1, fun u W hW hu he hl => ?_, fun k => absurd k h, fun _ => ⟨rfl, rfl⟩⟩
    subst he
    refine (hc.bytes_no z d s l a u W hW h hu hl).mono ?_
    rintro e w' ⟨⟨X, c, rfl⟩, hb⟩
    exact ⟨⟨X, c, rfl, fun k => absurd k (by decide)⟩, hb⟩
theorem read_ex (z d s l a : Int) (m : Nat) (b : List UInt8) (w : World) (hc : Ctt w) (hbm : b.length = m) (hm : m ≤ 300) : ∃ (es : List Ent) (n : Int), (∀ (A : Option Addr) (cap : Nat) W, Below w.heap.size w W → m ≤ cap → cap ≤ maxLen → Sl W W.heap.size A b → Calls Try.prog 10 #[.agg #[.int .i64 z, .int .i64 d, .int .i64 s, .int .i64 l, .int .i64 a], .slice A m cap] W fun e w' => TbE W.heap.size es n e w' ∧ Below W.heap.size W w') ∧
    (Ok z d s l a → Told d b → es = entsN b (d.toNat + 1) ∧ n = 0) ∧ (Ok z d s l a → ¬ Told d b → es = [] ∧ n = 4) ∧ (¬ Ok z d s l a → es = [] ∧ n = 1) := by
  by_cases ho : Ok z d s l a
  · by_cases ht : Told d b
    · exact ⟨_, _, fun A cap W hW h1 h2 h3 => hc.read z d s l a A m cap b W hW ho hbm h1 h2 (by omega) h3 ht, fun _ _ => ⟨rfl, rfl⟩, fun _ h => absurd ht h, fun h => absurd ho h⟩
    · exact ⟨_, _, fun A cap W hW h1 h2 h3 => hc.read_no z d s l a A m cap b W hW ho hbm h1 h2 (by omega) h3 ht, fun _ h => absurd h ht, fun _ _ => ⟨rfl, rfl⟩, fun h => absurd ho h⟩
  · exact ⟨_, _, fun A cap W hW h1 h2 h3 => hc.read_geo z d s l a A m cap b W hW ho hbm h1 h2 (by omega) h3, fun h => absurd h ho, fun h => absurd h ho, fun _ => ⟨rfl, rfl⟩⟩
theorem lost_ex (z d s l a : Int) (es : List Ent) (w : World) (hc : Ctt w) : ∃ (q : Nat) (L : List Int) (n : Int), (∀ (u : TV) W, Below w.heap.size w W → u.In W W.heap.size → u.es = es → u.es.length ≤ 1048576 → Calls Try.prog 11 #[.agg #[.int .i64 z, .int .i64 d, .int .i64 s, .int .i64 l, .int .i64 a], u.v] W fun e w' => IntX q L n e w' ∧ Below W.heap.size W w') ∧
    (Ok z d s l a ∧ Good d es → q = (lostN es d.toNat).length ∧ L = lostN es d.toNat ∧ n = 0) ∧ (¬ (Ok z d s l a ∧ Good d es) → q = 0 ∧ n = 1) := by
  by_cases h : Ok z d s l a ∧ Good d es
  · refine ⟨_, _, 0, fun u W hW hu he _ => ?_, fun _ => ⟨rfl, rfl, rfl⟩, fun k => absurd h k⟩
    subst he
    refine (hc.lost z d s l a u W hW h.1 hu h.2).mono ?_
    rintro e w' ⟨⟨X, c, rfl, -, ho⟩, hb⟩
    exact ⟨⟨X, c, rfl, fun _ => ho⟩, hb⟩
  · refine ⟨0, [], 1, fun u W hW hu he hl => ?_, fun k => absurd k h, fun _ => ⟨rfl, rfl⟩⟩
    subst he
    refine (hc.lost_no z d s l a u W hW h hu hl).mono ?_
    rintro e w' ⟨⟨X, c, rfl⟩, hb⟩
    exact ⟨⟨X, c, rfl, fun k => absurd k (by decide)⟩, hb⟩
set_option maxRecDepth 100000 in
set_option maxHeartbeats 4000000 in
theorem te_long (z d s l a : Int) (x : TV) (n : Nat) (A : Option Addr) (m cap : Nat) (w : World) (hxn : x.es.length = n) (h : 20 < n) :
    Calls Try.prog 3 #[.agg #[.int .i64 z, .int .i64 d, .int .i64 s, .int .i64 l, .int .i64 a], x.v, .slice A m cap] w fun e w' => e = .returned (.bool true) ∧ Below w.heap.size w w' := by
  have GG := (g5_new w z d s l a).keep (bl (w.alloc (.cells #[.int .i64 z, .int .i64 d, .int .i64 s, .int .i64 l, .int .i64 a] 23)) (.cells #[.slice x.A n x.c] 26)) (by simp)
  have X1 := c1_new (w.alloc (.cells #[.int .i64 z, .int .i64 d, .int .i64 s, .int .i64 l, .int .i64 a] 23)) (.slice x.A n x.c) 26
  rw [show (w.alloc (.cells #[.int .i64 z, .int .i64 d, .int .i64 s, .int .i64 l, .int .i64 a] 23)).heap.size = w.heap.size + 1 by simp] at X1
  have hb0 := kal (bl w (.cells #[.int .i64 z, .int .i64 d, .int .i64 s, .int .i64 l, .int .i64 a] 23)) (.cells #[.slice x.A n x.c] 26)
  have l1 : w.heap.size + 1 < ((w.alloc (.cells #[.int .i64 z, .int .i64 d, .int .i64 s, .int .i64 l, .int .i64 a] 23)).alloc (.cells #[.slice x.A n x.c] 26)).heap.size := by simp
  have i1 : (20 : Int) < (n : Int) := by omega
  unfold TV.v
  rw [hxn]
  go_enter Try.func3, Try.ntmps3
  go_upto_region 1 with fail
  generalize ((w.alloc (.cells #[.int .i64 z, .int .i64 d, .int .i64 s, .int .i64 l, .int .i64 a] 23)).alloc (.cells #[.slice x.A n x.c] 26)) = w0 at *
  obtain ⟨g0, g1, g2, g3, g4⟩ := id GG
  have x0 := X1.c0
  go_wp2_with fail
  go_ret
  exact ⟨rfl, hb0⟩
set_option maxRecDepth 100000 in
set_option maxHeartbeats 4000000 in
theorem te_long2 (z d s l a : Int) (x : TV) (n : Nat) (A : Option Addr) (m cap : Nat) (w : World) (hxn : x.es.length = n) (hn20 : n ≤ 20) (h : 300 < m) :
    Calls Try.prog 3 #[.agg #[.int .i64 z, .int .i64 d, .int .i64 s, .int .i64 l, .int .i64 a], x.v, .slice A m cap] w fun e w' => e = .returned (.bool true) ∧ Below w.heap.size w w' := by
  have GG := (g5_new w z d s l a).keep (bl (w.alloc (.cells #[.int .i64 z, .int .i64 d, .int .i64 s, .int .i64 l, .int .i64 a] 23)) (.cells #[.slice x.A n x.c] 26)) (by simp)
  have X1 := c1_new (w.alloc (.cells #[.int .i64 z, .int .i64 d, .int .i64 s, .int .i64 l, .int .i64 a] 23)) (.slice x.A n x.c) 26
  rw [show (w.alloc (.cells #[.int .i64 z, .int .i64 d, .int .i64 s, .int .i64 l, .int .i64 a] 23)).heap.size = w.heap.size + 1 by simp] at X1
  have hb0 := kal (bl w (.cells #[.int .i64 z, .int .i64 d, .int .i64 s, .int .i64 l, .int .i64 a] 23)) (.cells #[.slice x.A n x.c] 26)
  have l1 : w.heap.size + 1 < ((w.alloc (.cells #[.int .i64 z, .int .i64 d, .int .i64 s, .int .i64 l, .int .i64 a] 23)).alloc (.cells #[.slice x.A n x.c] 26)).heap.size := by simp
  have i1 : ¬ (20 : Int) < (n : Int) := by omega
  have i2 : (300 : Int) < (m : Int) := by omega
  unfold TV.v
  rw [hxn]
  go_enter Try.func3, Try.ntmps3
  go_upto_region 1 with fail
  generalize ((w.alloc (.cells #[.int .i64 z, .int .i64 d, .int .i64 s, .int .i64 l, .int .i64 a] 23)).alloc (.cells #[.slice x.A n x.c] 26)) = w0 at *
  obtain ⟨g0, g1, g2, g3, g4⟩ := id GG
  have x0 := X1.c0
  go_wp2_with fail
  go_ret
  exact ⟨rfl, hb0⟩
set_option maxRecDepth 100000 in
set_option maxHeartbeats 4000000 in
theorem te_go (z d s l a : Int) (x : TV) (n : Nat) (A : Option Addr) (m cap : Nat) (b : List UInt8) (w : World) (hxn : x.es.length = n) (hc : Ctt w) (hx : x.In w w.heap.size) (hn20 : n ≤ 20) (hbm : b.length = m) (hm : m ≤ 300) (hcap : m ≤ cap) (hmax : cap ≤ maxLen) (hA : Sl w w.heap.size A b) :
    Calls Try.prog 3 #[.agg #[.int .i64 z, .int .i64 d, .int .i64 s, .int .i64 l, .int .i64 a], x.v, .slice A m cap] w fun e w' => e = .returned (.bool true) ∧ Below w.heap.size w w' := by
  obtain ⟨es1, e1, HF, HF1, HF2⟩ := first_ex z d s l a w hc
  obtain ⟨q2, L2, e2, HB, HB1, HB2⟩ := bytes_ex z d s l a x.es w hc
  obtain ⟨es3, e3, HR, HR1, HR2, HR3⟩ := read_ex z d s l a m b w hc hbm hm
  obtain ⟨q5, L5, e5, HL, HL1, HL2⟩ := lost_ex z d s l a x.es w hc
  have HV := Lib.hid (And.intro HF1 (And.intro HF2 (And.intro HB1 (And.intro HB2 (And.intro HR1 (And.intro HR2 (And.intro HR3 (And.intro HL1 HL2))))))))
  have HFH := Lib.hid HF
  have HBH := Lib.hid HB
  have HRH := Lib.hid HR
  have HLH := Lib.hid HL
  have HC := Lib.hid hc
  have HX := Lib.hid hx
  have HXN := Lib.hid hxn
  have HBM := Lib.hid hbm
  have HA := Lib.hid hA
  have i1 : ¬ (20 : Int) < (n : Int) := by omega
  have i2 : ¬ (300 : Int) < (m : Int) := by omega
  clear HF HB HR HL HF1 HF2 HB1 HB2 HR1 HR2 HR3 HL1 HL2
  have GG := (g5_new w z d s l a).keep (bl (w.alloc (.cells #[.int .i64 z, .int .i64 d, .int .i64 s, .int .i64 l, .int .i64 a] 23)) (.cells #[.slice x.A n x.c] 26)) (by simp)
  have X1 := c1_new (w.alloc (.cells #[.int .i64 z, .int .i64 d, .int .i64 s, .int .i64 l, .int .i64 a] 23)) (.slice x.A n x.c) 26
  rw [show (w.alloc (.cells #[.int .i64 z, .int .i64 d, .int .i64 s, .int .i64 l, .int .i64 a] 23)).heap.size = w.heap.size + 1 by simp] at X1
  have hb0 := kal (bl w (.cells #[.int .i64 z, .int .i64 d, .int .i64 s, .int .i64 l, .int .i64 a] 23)) (.cells #[.slice x.A n x.c] 26)
  have l1 : w.heap.size + 1 < ((w.alloc (.cells #[.int .i64 z, .int .i64 d, .int .i64 s, .int .i64 l, .int .i64 a] 23)).alloc (.cells #[.slice x.A n x.c] 26)).heap.size := by simp
  unfold TV.v
  rw [hxn]
  go_enter Try.func3, Try.ntmps3
  go_upto_region 1 with fail
  generalize ((w.alloc (.cells #[.int .i64 z, .int .i64 d, .int .i64 s, .int .i64 l, .int .i64 a] 23)).alloc (.cells #[.slice x.A n x.c] 26)) = w0 at *
  obtain ⟨g0, g1, g2, g3, g4⟩ := id GG
  have x0 := X1.c0
  clear hc hx hxn hbm hA
  have cT := Lib.hid (fun W (hW : Below w.heap.size w W) => twin_table x n W (HX.out.next hW) HXN.out (by omega))
  unfold TV.v at cT
  rw [HXN.out] at cT
  go_upto_region 4 with (go_at_call 7; (with_reducible refine (cT.out _ hb0).mono ?_); rintro e w5 ⟨⟨u, heu, hue0, huo⟩, hbq⟩; rw [TV.v] at heu; subst heu; have HUE := Lib.hid hue0; clear hue0; replace GG := GG.keep hbq (by omega); replace X1 := X1.keep hbq (by omega); replace l1 := Nat.lt_of_lt_of_le l1 hbq.size; clear g0 g1 g2 g3 g4 x0; obtain ⟨g0, g1, g2, g3, g4⟩ := id GG; have x0 := X1.c0; replace hb0 := bt hb0 hbq; clear hbq)
  have hul : u.es.length = n := by rw [HUE.out]; exact HXN.out
  rw [hul]
  have HUL := Lib.hid hul
  have HUI := Lib.hid (TV.Own.inn huo)
  clear hul huo cT
  have hxq := bl w5 (.cells #[.slice u.A n u.c] 26)
  have U1 := c1_new w5 (.slice u.A n u.c) 26
  replace GG := GG.keep hxq (by omega); replace X1 := X1.keep hxq (by omega); replace l1 := Nat.lt_of_lt_of_le l1 hxq.size; clear g0 g1 g2 g3 g4 x0; obtain ⟨g0, g1, g2, g3, g4⟩ := id GG; have x0 := X1.c0; replace hb0 := bt hb0 hxq; replace HUI := Lib.hid (HUI.out.next hxq)
  obtain ⟨gU, hgU⟩ : ∃ g, g = w5.heap.size := ⟨_, rfl⟩
  have lU : gU < (w5.alloc (.cells #[.slice u.A n u.c] 26)).heap.size := by rw [hgU]; simp
  rw [← hgU] at U1 ⊢
  clear hgU hxq
  generalize w5.alloc (.cells #[.slice u.A n u.c] 26) = w6 at *
  have u0 := U1.c0
  go_upto_region 5 with (go_at_call 8; (with_reducible refine (HFH.out _ hb0).mono ?_); rintro e w7 ⟨⟨f, hef, hfe0, hfo⟩, hbq⟩; rw [TV.v] at hef; subst hef; have HFE := Lib.hid hfe0; clear hfe0; replace GG := GG.keep hbq (by omega); replace X1 := X1.keep hbq (by omega); replace l1 := Nat.lt_of_lt_of_le l1 hbq.size; clear g0 g1 g2 g3 g4 x0; obtain ⟨g0, g1, g2, g3, g4⟩ := id GG; have x0 := X1.c0; replace hb0 := bt hb0 hbq; replace U1 := U1.keep hbq lU; replace lU := Nat.lt_of_lt_of_le lU hbq.size; clear u0; have u0 := U1.c0; replace HUI := Lib.hid (HUI.out.next hbq); clear hbq)
  have HFI := Lib.hid (TV.Own.inn hfo)
  clear hfo HFH
  have hxq := bl w7 (.cells #[.slice f.A f.es.length f.c] 26)
  have F1 := c1_new w7 (.slice f.A f.es.length f.c) 26
  replace GG := GG.keep hxq (by omega); replace X1 := X1.keep hxq (by omega); replace l1 := Nat.lt_of_lt_of_le l1 hxq.size; clear g0 g1 g2 g3 g4 x0; obtain ⟨g0, g1, g2, g3, g4⟩ := id GG; have x0 := X1.c0; replace hb0 := bt hb0 hxq; replace U1 := U1.keep hxq lU; replace lU := Nat.lt_of_lt_of_le lU hxq.size; clear u0; have u0 := U1.c0; replace HUI := Lib.hid (HUI.out.next hxq); replace HFI := Lib.hid (HFI.out.next hxq)
  obtain ⟨gF, hgF⟩ : ∃ g, g = w7.heap.size := ⟨_, rfl⟩
  have lF : gF < (w7.alloc (.cells #[.slice f.A f.es.length f.c] 26)).heap.size := by rw [hgF]; simp
  rw [← hgF] at F1 ⊢
  clear hgF hxq
  generalize w7.alloc (.cells #[.slice f.A f.es.length f.c] 26) = w8 at *
  have f0 := F1.c0
  have HBU := Lib.hid (show Calls Try.prog 9 #[.agg #[.int .i64 z, .int .i64 d, .int .i64 s, .int .i64 l, .int .i64 a], .agg #[.slice u.A n u.c]] w8 fun e w' => BytX q2 L2 e2 e w' ∧ Below w8.heap.size w8 w' from by
    have h9 := HBH.out u w8 hb0 HUI.out HUE.out (by rw [HUL.out]; omega)
    unfold TV.v at h9
    rwa [HUL.out] at h9)
  go_upto_region 6 with (go_at_call 9; (with_reducible refine HBU.out.mono ?_); rintro e w9 ⟨⟨Y, yc, rfl, hyl0⟩, hbq⟩; replace GG := GG.keep hbq (by omega); replace X1 := X1.keep hbq (by omega); replace l1 := Nat.lt_of_lt_of_le l1 hbq.size; clear g0 g1 g2 g3 g4 x0; obtain ⟨g0, g1, g2, g3, g4⟩ := id GG; have x0 := X1.c0; replace hb0 := bt hb0 hbq; replace U1 := U1.keep hbq lU; replace lU := Nat.lt_of_lt_of_le lU hbq.size; clear u0; have u0 := U1.c0; replace F1 := F1.keep hbq lF; replace lF := Nat.lt_of_lt_of_le lF hbq.size; clear f0; have f0 := F1.c0; replace HUI := Lib.hid (HUI.out.next hbq); replace HFI := Lib.hid (HFI.out.next hbq); clear hbq)
  have HYL := Lib.hid hyl0
  clear hyl0 HBU HBH
  have HRU := Lib.hid (HRH.out A cap w9 hb0 hcap hmax (HA.out.next hb0))
  go_upto_region 7 with (go_at_call 10; (with_reducible refine HRU.out.mono ?_); rintro e w10 ⟨⟨r, her, hre0, hro⟩, hbq⟩; rw [TV.v] at her; subst her; have HRE := Lib.hid hre0; clear hre0; replace GG := GG.keep hbq (by omega); replace X1 := X1.keep hbq (by omega); replace l1 := Nat.lt_of_lt_of_le l1 hbq.size; clear g0 g1 g2 g3 g4 x0; obtain ⟨g0, g1, g2, g3, g4⟩ := id GG; have x0 := X1.c0; replace hb0 := bt hb0 hbq; replace U1 := U1.keep hbq lU; replace lU := Nat.lt_of_lt_of_le lU hbq.size; clear u0; have u0 := U1.c0; replace F1 := F1.keep hbq lF; replace lF := Nat.lt_of_lt_of_le lF hbq.size; clear f0; have f0 := F1.c0; replace HUI := Lib.hid (HUI.out.next hbq); replace HFI := Lib.hid (HFI.out.next hbq); replace HYL := Lib.hid (fun h => (HYL.out h).next hbq); clear hbq)
  have HRI := Lib.hid (TV.Own.inn hro)
  clear hro HRU HRH
  have hxq := bl w10 (.cells #[.slice r.A r.es.length r.c] 26)
  have R1 := c1_new w10 (.slice r.A r.es.length r.c) 26
  replace GG := GG.keep hxq (by omega); replace X1 := X1.keep hxq (by omega); replace l1 := Nat.lt_of_lt_of_le l1 hxq.size; clear g0 g1 g2 g3 g4 x0; obtain ⟨g0, g1, g2, g3, g4⟩ := id GG; have x0 := X1.c0; replace hb0 := bt hb0 hxq; replace U1 := U1.keep hxq lU; replace lU := Nat.lt_of_lt_of_le lU hxq.size; clear u0; have u0 := U1.c0; replace F1 := F1.keep hxq lF; replace lF := Nat.lt_of_lt_of_le lF hxq.size; clear f0; have f0 := F1.c0; replace HUI := Lib.hid (HUI.out.next hxq); replace HFI := Lib.hid (HFI.out.next hxq); replace HYL := Lib.hid (fun h => (HYL.out h).next hxq); replace HRI := Lib.hid (HRI.out.next hxq)
  obtain ⟨gR, hgR⟩ : ∃ g, g = w10.heap.size := ⟨_, rfl⟩
  have lR : gR < (w10.alloc (.cells #[.slice r.A r.es.length r.c] 26)).heap.size := by rw [hgR]; simp
  rw [← hgR] at R1 ⊢
  clear hgR hxq
  generalize w10.alloc (.cells #[.slice r.A r.es.length r.c] 26) = w11 at *
  have r0 := R1.c0
  have HLU := Lib.hid (show Calls Try.prog 11 #[.agg #[.int .i64 z, .int .i64 d, .int .i64 s, .int .i64 l, .int .i64 a], .agg #[.slice u.A n u.c]] w11 fun e w' => IntX q5 L5 e5 e w' ∧ Below w11.heap.size w11 w' from by
    have h9 := HLH.out u w11 hb0 HUI.out HUE.out (by rw [HUL.out]; omega)
    unfold TV.v at h9
    rwa [HUL.out] at h9)
  go_upto_region 8 with (go_at_call 11; (with_reducible refine HLU.out.mono ?_); rintro e w12 ⟨⟨J, jc, rfl, hjl0⟩, hbq⟩; replace GG := GG.keep hbq (by omega); replace X1 := X1.keep hbq (by omega); replace l1 := Nat.lt_of_lt_of_le l1 hbq.size; clear g0 g1 g2 g3 g4 x0; obtain ⟨g0, g1, g2, g3, g4⟩ := id GG; have x0 := X1.c0; replace hb0 := bt hb0 hbq; replace U1 := U1.keep hbq lU; replace lU := Nat.lt_of_lt_of_le lU hbq.size; clear u0; have u0 := U1.c0; replace F1 := F1.keep hbq lF; replace lF := Nat.lt_of_lt_of_le lF hbq.size; clear f0; have f0 := F1.c0; replace R1 := R1.keep hbq lR; replace lR := Nat.lt_of_lt_of_le lR hbq.size; clear r0; have r0 := R1.c0; replace HUI := Lib.hid (HUI.out.next hbq); replace HFI := Lib.hid (HFI.out.next hbq); replace HYL := Lib.hid (fun h => (HYL.out h).next hbq); replace HRI := Lib.hid (HRI.out.next hbq); clear hbq)
  have HJL := Lib.hid hjl0
  clear hjl0 HLU HLH
  go_upto_region 9 with fail
  have hxq := bl w12 (.cells #[.slice none 0 0] 26)
  have N1 := c1_new w12 (.slice none 0 0) 26
  replace GG := GG.keep hxq (by omega); replace X1 := X1.keep hxq (by omega); replace l1 := Nat.lt_of_lt_of_le l1 hxq.size; clear g0 g1 g2 g3 g4 x0; obtain ⟨g0, g1, g2, g3, g4⟩ := id GG; have x0 := X1.c0; replace hb0 := bt hb0 hxq; replace U1 := U1.keep hxq lU; replace lU := Nat.lt_of_lt_of_le lU hxq.size; clear u0; have u0 := U1.c0; replace F1 := F1.keep hxq lF; replace lF := Nat.lt_of_lt_of_le lF hxq.size; clear f0; have f0 := F1.c0; replace R1 := R1.keep hxq lR; replace lR := Nat.lt_of_lt_of_le lR hxq.size; clear r0; have r0 := R1.c0; replace HUI := Lib.hid (HUI.out.next hxq); replace HFI := Lib.hid (HFI.out.next hxq); replace HYL := Lib.hid (fun h => (HYL.out h).next hxq); replace HRI := Lib.hid (HRI.out.next hxq); replace HJL := Lib.hid (fun h => (HJL.out h).next hxq)
  obtain ⟨gN, hgN⟩ : ∃ g, g = w12.heap.size := ⟨_, rfl⟩
  have lN : gN < (w12.alloc (.cells #[.slice none 0 0] 26)).heap.size := by rw [hgN]; simp
  rw [← hgN] at N1 ⊢
  clear hgN hxq
  generalize w12.alloc (.cells #[.slice none 0 0] 26) = w13 at *
  have n0 := N1.c0
  have b13 := Below.refl w13.heap.size w13
  have HWK := Lib.hid (fun W (hW : Below w.heap.size w W) => wk_tab W (HC.out.next hW))
  by_cases ho : Ok z d s l a
  case neg =>
    obtain ⟨-, v1, -, v2, -, -, v3, -, v4⟩ := HV.out
    obtain ⟨rfl, rfl⟩ := v1 ho
    obtain ⟨rfl, rfl⟩ := v2 (fun h => ho h.1)
    obtain ⟨rfl, rfl⟩ := v3 ho
    obtain ⟨rfl, rfl⟩ := v4 (fun h => ho h.1)
    have cG := fun W => Go.Proofs.Ytldknkikekaifaa.gmt.rgeo_at false z d s l a W (iff_of_false Bool.false_ne_true ho)
    have HSF := Lib.hid (show ∀ W, Below w13.heap.size w13 W → Calls Try.prog 14 #[.agg #[.slice f.A f.es.length f.c], .agg #[.slice none 0 0]] W fun e w' => e = .returned (.bool true) ∧ Below W.heap.size W w' from fun W hW => by
      have h9 := tab_same f noTV W (HFI.out.next hW) (TV.Own.inn (noTV_own W 0)) (by rw [HFE.out]; decide)
      rwa [decide_eq_true (show f.es = noTV.es from HFE.out)] at h9)
    have HSR := Lib.hid (show ∀ W, Below w13.heap.size w13 W → Calls Try.prog 14 #[.agg #[.slice r.A r.es.length r.c], .agg #[.slice none 0 0]] W fun e w' => e = .returned (.bool true) ∧ Below W.heap.size W w' from fun W hW => by
      have h9 := tab_same r noTV W (HRI.out.next hW) (TV.Own.inn (noTV_own W 0)) (by rw [HRE.out]; decide)
      rwa [decide_eq_true (show r.es = noTV.es from HRE.out)] at h9)
    have HCU := Lib.hid (show ∀ W, Below w13.heap.size w13 W → Below w.heap.size w W → Calls Try.prog 13 #[.agg #[.int .i64 z, .int .i64 d, .int .i64 s, .int .i64 l, .int .i64 a], .agg #[.slice u.A n u.c]] W fun e w' => e = .returned (.int .i64 1) ∧ Below W.heap.size W w' from fun W hW hW0 => by
      have h9 := HC.out.check_geo z d s l a u W hW0 ho (HUI.out.next hW)
      unfold TV.v at h9
      rwa [HUL.out] at h9)
    clear v1 v2 v3 v4 ho HV HYL HJL HUI HFI HRI
    go_wp2_with (first
      | (go_at_call 12; (with_reducible refine (cG _).mono ?_); rintro e wq ⟨rfl, hbq⟩; replace GG := GG.keep hbq (by omega); replace X1 := X1.keep hbq (by omega); replace l1 := Nat.lt_of_lt_of_le l1 hbq.size; clear g0 g1 g2 g3 g4 x0; obtain ⟨g0, g1, g2, g3, g4⟩ := id GG; have x0 := X1.c0; replace hb0 := bt hb0 hbq; replace U1 := U1.keep hbq lU; replace lU := Nat.lt_of_lt_of_le lU hbq.size; clear u0; have u0 := U1.c0; replace F1 := F1.keep hbq lF; replace lF := Nat.lt_of_lt_of_le lF hbq.size; clear f0; have f0 := F1.c0; replace R1 := R1.keep hbq lR; replace lR := Nat.lt_of_lt_of_le lR hbq.size; clear r0; have r0 := R1.c0; replace N1 := N1.keep hbq lN; replace lN := Nat.lt_of_lt_of_le lN hbq.size; clear n0; have n0 := N1.c0; replace b13 := bt b13 hbq; clear hbq)
      | (go_at_call 13; (with_reducible refine (HCU.out _ b13 hb0).mono ?_); rintro e wq ⟨rfl, hbq⟩; replace GG := GG.keep hbq (by omega); replace X1 := X1.keep hbq (by omega); replace l1 := Nat.lt_of_lt_of_le l1 hbq.size; clear g0 g1 g2 g3 g4 x0; obtain ⟨g0, g1, g2, g3, g4⟩ := id GG; have x0 := X1.c0; replace hb0 := bt hb0 hbq; replace U1 := U1.keep hbq lU; replace lU := Nat.lt_of_lt_of_le lU hbq.size; clear u0; have u0 := U1.c0; replace F1 := F1.keep hbq lF; replace lF := Nat.lt_of_lt_of_le lF hbq.size; clear f0; have f0 := F1.c0; replace R1 := R1.keep hbq lR; replace lR := Nat.lt_of_lt_of_le lR hbq.size; clear r0; have r0 := R1.c0; replace N1 := N1.keep hbq lN; replace lN := Nat.lt_of_lt_of_le lN hbq.size; clear n0; have n0 := N1.c0; replace b13 := bt b13 hbq; clear hbq)
      | (go_at_call 14; (with_reducible refine (HSF.out _ b13).mono ?_); rintro e wq ⟨rfl, hbq⟩; replace GG := GG.keep hbq (by omega); replace X1 := X1.keep hbq (by omega); replace l1 := Nat.lt_of_lt_of_le l1 hbq.size; clear g0 g1 g2 g3 g4 x0; obtain ⟨g0, g1, g2, g3, g4⟩ := id GG; have x0 := X1.c0; replace hb0 := bt hb0 hbq; replace U1 := U1.keep hbq lU; replace lU := Nat.lt_of_lt_of_le lU hbq.size; clear u0; have u0 := U1.c0; replace F1 := F1.keep hbq lF; replace lF := Nat.lt_of_lt_of_le lF hbq.size; clear f0; have f0 := F1.c0; replace R1 := R1.keep hbq lR; replace lR := Nat.lt_of_lt_of_le lR hbq.size; clear r0; have r0 := R1.c0; replace N1 := N1.keep hbq lN; replace lN := Nat.lt_of_lt_of_le lN hbq.size; clear n0; have n0 := N1.c0; replace b13 := bt b13 hbq; clear hbq)
      | (go_at_call 14; (with_reducible refine (HSR.out _ b13).mono ?_); rintro e wq ⟨rfl, hbq⟩; replace GG := GG.keep hbq (by omega); replace X1 := X1.keep hbq (by omega); replace l1 := Nat.lt_of_lt_of_le l1 hbq.size; clear g0 g1 g2 g3 g4 x0; obtain ⟨g0, g1, g2, g3, g4⟩ := id GG; have x0 := X1.c0; replace hb0 := bt hb0 hbq; replace U1 := U1.keep hbq lU; replace lU := Nat.lt_of_lt_of_le lU hbq.size; clear u0; have u0 := U1.c0; replace F1 := F1.keep hbq lF; replace lF := Nat.lt_of_lt_of_le lF hbq.size; clear f0; have f0 := F1.c0; replace R1 := R1.keep hbq lR; replace lR := Nat.lt_of_lt_of_le lR hbq.size; clear r0; have r0 := R1.c0; replace N1 := N1.keep hbq lN; replace lN := Nat.lt_of_lt_of_le lN hbq.size; clear n0; have n0 := N1.c0; replace b13 := bt b13 hbq; clear hbq)
      | (go_at_call 15; (with_reducible refine (HWK.out _ hb0).mono ?_); rintro e wz ⟨rfl, hbz⟩))
    go_ret
    exact ⟨rfl, bt hb0 hbz⟩
  case pos =>
    obtain ⟨v0, -, v1, v2, v3, v4, -, v5, v6⟩ := HV.out
    obtain ⟨hes1, rfl⟩ := v0 ho
    have HFE2 := Lib.hid (HFE.out.trans hes1)
    have HO := Lib.hid ho
    have cG := fun W => Go.Proofs.Ytldknkikekaifaa.gmt.rgeo_at true z d s l a W (iff_of_true rfl ho)
    have HV2 := Lib.hid (And.intro v1 (And.intro v2 (And.intro v3 (And.intro v4 (And.intro v5 v6)))))
    clear v0 v1 v2 v3 v4 v5 v6 hes1 ho HV
    go_upto_region 11 with (go_at_call 12; (with_reducible refine (cG _).mono ?_); rintro e wq ⟨rfl, hbq⟩; replace GG := GG.keep hbq (by omega); replace X1 := X1.keep hbq (by omega); replace l1 := Nat.lt_of_lt_of_le l1 hbq.size; clear g0 g1 g2 g3 g4 x0; obtain ⟨g0, g1, g2, g3, g4⟩ := id GG; have x0 := X1.c0; replace hb0 := bt hb0 hbq; replace U1 := U1.keep hbq lU; replace lU := Nat.lt_of_lt_of_le lU hbq.size; clear u0; have u0 := U1.c0; replace F1 := F1.keep hbq lF; replace lF := Nat.lt_of_lt_of_le lF hbq.size; clear f0; have f0 := F1.c0; replace R1 := R1.keep hbq lR; replace lR := Nat.lt_of_lt_of_le lR hbq.size; clear r0; have r0 := R1.c0; replace N1 := N1.keep hbq lN; replace lN := Nat.lt_of_lt_of_le lN hbq.size; clear n0; have n0 := N1.c0; replace HUI := Lib.hid (HUI.out.next hbq); replace HFI := Lib.hid (HFI.out.next hbq); replace HYL := Lib.hid (fun h => (HYL.out h).next hbq); replace HRI := Lib.hid (HRI.out.next hbq); replace HJL := Lib.hid (fun h => (HJL.out h).next hbq); replace b13 := bt b13 hbq; clear hbq)
    obtain ⟨w14, rfl⟩ : ∃ v, v = wq := ⟨wq, rfl⟩
    have HFT := Lib.hid (show ∀ W, Below w.heap.size w W → Calls Try.prog 16 #[.agg #[.int .i64 z, .int .i64 d, .int .i64 s, .int .i64 l, .int .i64 a]] W fun e w' => TbQ W.heap.size (List.replicate (d.toNat + 1) newE) e w' ∧ Below W.heap.size W w' from fun W _ => rfirst_tab z d s l a W HO.out)
    have HKF := Lib.hid (show ∀ (t : TV) W, Below w14.heap.size w14 W → t.In W W.heap.size → t.es = List.replicate (d.toNat + 1) newE → Calls Try.prog 14 #[.agg #[.slice f.A f.es.length f.c], .agg #[.slice t.A t.es.length t.c]] W fun e w' => e = .returned (.bool true) ∧ Below W.heap.size W w' from fun t W hW ht hte => by
      have h9 := tab_same f t W (HFI.out.next hW) ht (by rw [HFE2.out, List.length_replicate]; have := HO.out.2.1; omega)
      rwa [decide_eq_true (HFE2.out.trans hte.symm)] at h9)
    have HF := Lib.hid (show ∀ W, Below w14.heap.size w14 W → W.cell? ⟨w.heap.size, 0, none⟩ = some (.int .i64 z) ∧ W.cell? ⟨w.heap.size, 1, none⟩ = some (.int .i64 d) ∧ W.cell? ⟨w.heap.size, 2, none⟩ = some (.int .i64 s) ∧ W.cell? ⟨w.heap.size, 3, none⟩ = some (.int .i64 l) ∧ W.cell? ⟨w.heap.size, 4, none⟩ = some (.int .i64 a) ∧ W.cell? ⟨gF, 0, none⟩ = some (.slice f.A f.es.length f.c) ∧ Below w14.heap.size w14 W from fun W h => ⟨kst h (by omega) g0, kst h (by omega) g1, kst h (by omega) g2, kst h (by omega) g3, kst h (by omega) g4, kst h lF f0, h⟩)
    go_region_held3 (fun W => W.cell? ⟨w.heap.size, 0, none⟩ = some (.int .i64 z) ∧ W.cell? ⟨w.heap.size, 1, none⟩ = some (.int .i64 d) ∧ W.cell? ⟨w.heap.size, 2, none⟩ = some (.int .i64 s) ∧ W.cell? ⟨w.heap.size, 3, none⟩ = some (.int .i64 l) ∧ W.cell? ⟨w.heap.size, 4, none⟩ = some (.int .i64 a) ∧ W.cell? ⟨gF, 0, none⟩ = some (.slice f.A f.es.length f.c) ∧ Below w14.heap.size w14 W)
      ((refine HF.out _ ?_; first
        | with_reducible exact hb2
        | with_reducible exact hb1
        | with_reducible exact below_dr (Below.refl _ _)
        | fail))
      (first
        | (go_at_call 16; (with_reducible refine (HFT.out _ (bt hb0 (below_dr (Below.refl _ _)))).mono ?_); rintro e w15 ⟨⟨t1, het, hte, hto⟩, hbq⟩; rw [TV.v] at het; subst het; have hte1 := Lib.hid hte; clear hte; have hti := Lib.hid (TV.Own.inn hto); clear hto; have hb1 := bt (below_dr (Below.refl w14.heap.size w14)) hbq; clear hbq)
        | (go_at_call 14; (with_reducible refine (HKF.out t1 _ hb1 hti.out hte1.out).mono ?_); rintro e w16 ⟨rfl, hbq⟩; have hb2 := bt hb1 hbq; clear hbq)
        | fail)
    clear hti hte1 hb1 HF HFT HKF
    replace GG := GG.keep hb2 (by omega); replace X1 := X1.keep hb2 (by omega); replace l1 := Nat.lt_of_lt_of_le l1 hb2.size; clear g0 g1 g2 g3 g4 x0; obtain ⟨g0, g1, g2, g3, g4⟩ := id GG; have x0 := X1.c0; replace hb0 := bt hb0 hb2; replace U1 := U1.keep hb2 lU; replace lU := Nat.lt_of_lt_of_le lU hb2.size; clear u0; have u0 := U1.c0; replace F1 := F1.keep hb2 lF; replace lF := Nat.lt_of_lt_of_le lF hb2.size; clear f0; have f0 := F1.c0; replace R1 := R1.keep hb2 lR; replace lR := Nat.lt_of_lt_of_le lR hb2.size; clear r0; have r0 := R1.c0; replace N1 := N1.keep hb2 lN; replace lN := Nat.lt_of_lt_of_le lN hb2.size; clear n0; have n0 := N1.c0; replace HUI := Lib.hid (HUI.out.next hb2); replace HFI := Lib.hid (HFI.out.next hb2); replace HYL := Lib.hid (fun h => (HYL.out h).next hb2); replace HRI := Lib.hid (HRI.out.next hb2); replace HJL := Lib.hid (fun h => (HJL.out h).next hb2); replace b13 := bt b13 hb2
    clear hb2
    by_cases htold : Told d b
    case pos =>
      have HLEN := Lib.hid (show es3.length ≤ 1048576 from by rw [(HV2.out.2.2.1 HO.out htold).1, entsN_length]; have := HO.out.2.1; omega)
      obtain ⟨v1, v2, v3, v4, v5, v6⟩ := HV2.out
      obtain ⟨hes3, rfl⟩ := v3 HO.out htold
      have HRT := Lib.hid (show ∀ W, Below w.heap.size w W → Calls Try.prog 17 #[.agg #[.int .i64 z, .int .i64 d, .int .i64 s, .int .i64 l, .int .i64 a], .slice A m cap] W fun e w' => RdT W.heap.size es3 true e w' ∧ Below W.heap.size W w' from fun W hW => by
        have h9 := rread_tab true z d s l a A m cap b W HO.out HBM.out hcap hmax (HA.out.next hW) (iff_of_true rfl htold)
        rw [if_pos rfl, ← hes3] at h9
        exact h9)
      clear hes3 htold v1 v2 v3 v4 v5 v6
      go_upto_region 14 with (go_at_call 17; (with_reducible refine (HRT.out _ hb0).mono ?_); rintro e w17 ⟨⟨t2, het, hte, hto⟩, hbq⟩; rw [TV.v] at het; subst het; have HT2 := Lib.hid hte; clear hte; replace GG := GG.keep hbq (by omega); replace X1 := X1.keep hbq (by omega); replace l1 := Nat.lt_of_lt_of_le l1 hbq.size; clear g0 g1 g2 g3 g4 x0; obtain ⟨g0, g1, g2, g3, g4⟩ := id GG; have x0 := X1.c0; replace hb0 := bt hb0 hbq; replace U1 := U1.keep hbq lU; replace lU := Nat.lt_of_lt_of_le lU hbq.size; clear u0; have u0 := U1.c0; replace F1 := F1.keep hbq lF; replace lF := Nat.lt_of_lt_of_le lF hbq.size; clear f0; have f0 := F1.c0; replace R1 := R1.keep hbq lR; replace lR := Nat.lt_of_lt_of_le lR hbq.size; clear r0; have r0 := R1.c0; replace N1 := N1.keep hbq lN; replace lN := Nat.lt_of_lt_of_le lN hbq.size; clear n0; have n0 := N1.c0; replace HUI := Lib.hid (HUI.out.next hbq); replace HFI := Lib.hid (HFI.out.next hbq); replace HYL := Lib.hid (fun h => (HYL.out h).next hbq); replace HRI := Lib.hid (HRI.out.next hbq); replace HJL := Lib.hid (fun h => (HJL.out h).next hbq); replace b13 := bt b13 hbq; clear hbq)
      have HTI := Lib.hid (TV.Own.inn hto)
      clear hto HRT
      have hxq := bl w17 (.cells #[.slice t2.A t2.es.length t2.c] 26)
      have M1 := c1_new w17 (.slice t2.A t2.es.length t2.c) 26
      replace GG := GG.keep hxq (by omega); replace X1 := X1.keep hxq (by omega); replace l1 := Nat.lt_of_lt_of_le l1 hxq.size; clear g0 g1 g2 g3 g4 x0; obtain ⟨g0, g1, g2, g3, g4⟩ := id GG; have x0 := X1.c0; replace hb0 := bt hb0 hxq; replace U1 := U1.keep hxq lU; replace lU := Nat.lt_of_lt_of_le lU hxq.size; clear u0; have u0 := U1.c0; replace F1 := F1.keep hxq lF; replace lF := Nat.lt_of_lt_of_le lF hxq.size; clear f0; have f0 := F1.c0; replace R1 := R1.keep hxq lR; replace lR := Nat.lt_of_lt_of_le lR hxq.size; clear r0; have r0 := R1.c0; replace N1 := N1.keep hxq lN; replace lN := Nat.lt_of_lt_of_le lN hxq.size; clear n0; have n0 := N1.c0; replace HUI := Lib.hid (HUI.out.next hxq); replace HFI := Lib.hid (HFI.out.next hxq); replace HYL := Lib.hid (fun h => (HYL.out h).next hxq); replace HRI := Lib.hid (HRI.out.next hxq); replace HJL := Lib.hid (fun h => (HJL.out h).next hxq); replace HTI := Lib.hid (HTI.out.next hxq); replace b13 := bt b13 hxq
      obtain ⟨gT2, hgT2⟩ : ∃ g, g = w17.heap.size := ⟨_, rfl⟩
      have lM : gT2 < (w17.alloc (.cells #[.slice t2.A t2.es.length t2.c] 26)).heap.size := by rw [hgT2]; simp
      rw [← hgT2] at M1 ⊢
      clear hgT2 hxq
      generalize w17.alloc (.cells #[.slice t2.A t2.es.length t2.c] 26) = w18 at *
      have m0 := M1.c0
      have HKR := Lib.hid (show ∀ W, Below w18.heap.size w18 W → Calls Try.prog 14 #[.agg #[.slice r.A r.es.length r.c], .agg #[.slice t2.A t2.es.length t2.c]] W fun e w' => e = .returned (.bool true) ∧ Below W.heap.size W w' from fun W hW => by
        have h9 := tab_same r t2 W (HRI.out.next hW) (HTI.out.next hW) (by have := TV.In.l HRI.out; rw [HRE.out]; exact HLEN.out)
        rwa [decide_eq_true (HRE.out.trans HT2.out.symm)] at h9)
      go_upto_region 16 with (go_at_call 14; (with_reducible refine (HKR.out _ (Below.refl _ _)).mono ?_); rintro e wq ⟨rfl, hbq⟩; replace GG := GG.keep hbq (by omega); replace X1 := X1.keep hbq (by omega); replace l1 := Nat.lt_of_lt_of_le l1 hbq.size; clear g0 g1 g2 g3 g4 x0; obtain ⟨g0, g1, g2, g3, g4⟩ := id GG; have x0 := X1.c0; replace hb0 := bt hb0 hbq; replace U1 := U1.keep hbq lU; replace lU := Nat.lt_of_lt_of_le lU hbq.size; clear u0; have u0 := U1.c0; replace F1 := F1.keep hbq lF; replace lF := Nat.lt_of_lt_of_le lF hbq.size; clear f0; have f0 := F1.c0; replace R1 := R1.keep hbq lR; replace lR := Nat.lt_of_lt_of_le lR hbq.size; clear r0; have r0 := R1.c0; replace N1 := N1.keep hbq lN; replace lN := Nat.lt_of_lt_of_le lN hbq.size; clear n0; have n0 := N1.c0; replace M1 := M1.keep hbq lM; replace lM := Nat.lt_of_lt_of_le lM hbq.size; clear m0; have m0 := M1.c0; replace HUI := Lib.hid (HUI.out.next hbq); replace HFI := Lib.hid (HFI.out.next hbq); replace HYL := Lib.hid (fun h => (HYL.out h).next hbq); replace HRI := Lib.hid (HRI.out.next hbq); replace HJL := Lib.hid (fun h => (HJL.out h).next hbq); replace HTI := Lib.hid (HTI.out.next hbq); replace b13 := bt b13 hbq; clear hbq)
      clear HKR
      clear r0 f0 n0 m0 R1 F1 N1 M1 lR lF lN lM HTI HRI HFI HT2 HRE HFE HFE2
      obtain ⟨v1, v2, -, -, v5, v6⟩ := HV2.out
      obtain ⟨w19, rfl⟩ : ∃ v, v = wq := ⟨wq, rfl⟩
      have b19 := Below.refl w19.heap.size w19
      by_cases hg : Good d x.es
      case neg =>
        obtain ⟨rfl, rfl⟩ := v2 (fun h => hg h.2)
        obtain ⟨rfl, rfl⟩ := v6 (fun h => hg h.2)
        have HCU := Lib.hid (show ∀ W, Below w19.heap.size w19 W → Calls Try.prog 13 #[.agg #[.int .i64 z, .int .i64 d, .int .i64 s, .int .i64 l, .int .i64 a], .agg #[.slice u.A n u.c]] W fun e w' => e = .returned (.int .i64 1) ∧ Below W.heap.size W w' from fun W hW => by
          have h9 := HC.out.check false z d s l a u W (bt hb0 hW) HO.out (HUI.out.next hW) (by rw [HUL.out]; omega) (iff_of_false Bool.false_ne_true (by rw [HUE.out]; exact hg))
          unfold TV.v at h9
          rw [HUL.out] at h9
          exact h9)
        have cR := Lib.hid (show ∀ W, Below w.heap.size w W → Calls Try.prog 18 #[.agg #[.int .i64 z, .int .i64 d, .int .i64 s, .int .i64 l, .int .i64 a], .agg #[.slice x.A n x.c]] W fun e w' => e = .returned (.bool false) ∧ Below W.heap.size W w' from fun W hW => by
          have h9 := rtable_any false z d s l a x W HO.out (HX.out.next hW) (by rw [HXN.out]; omega) (iff_of_false Bool.false_ne_true hg)
          unfold TV.v at h9
          rw [HXN.out] at h9
          exact h9)
        clear v1 v2 v5 v6 hg HV2 HYL HJL HUI b13
        go_wp2_with (first
          | (go_at_call 18; (with_reducible refine (cR.out _ hb0).mono ?_); rintro e wq ⟨rfl, hbq⟩; replace GG := GG.keep hbq (by omega); replace X1 := X1.keep hbq (by omega); replace l1 := Nat.lt_of_lt_of_le l1 hbq.size; clear g0 g1 g2 g3 g4 x0; obtain ⟨g0, g1, g2, g3, g4⟩ := id GG; have x0 := X1.c0; replace hb0 := bt hb0 hbq; replace U1 := U1.keep hbq lU; replace lU := Nat.lt_of_lt_of_le lU hbq.size; clear u0; have u0 := U1.c0; replace b19 := bt b19 hbq; clear hbq)
          | (go_at_call 13; (with_reducible refine (HCU.out _ b19).mono ?_); rintro e wq ⟨rfl, hbq⟩; replace GG := GG.keep hbq (by omega); replace X1 := X1.keep hbq (by omega); replace l1 := Nat.lt_of_lt_of_le l1 hbq.size; clear g0 g1 g2 g3 g4 x0; obtain ⟨g0, g1, g2, g3, g4⟩ := id GG; have x0 := X1.c0; replace hb0 := bt hb0 hbq; replace U1 := U1.keep hbq lU; replace lU := Nat.lt_of_lt_of_le lU hbq.size; clear u0; have u0 := U1.c0; replace b19 := bt b19 hbq; clear hbq)
          | (go_at_call 15; (with_reducible refine (HWK.out _ hb0).mono ?_); rintro e wz ⟨rfl, hbz⟩))
        go_ret
        exact ⟨rfl, bt hb0 hbz⟩
      obtain ⟨hq2, hL2, rfl⟩ := v1 ⟨HO.out, hg⟩
      obtain ⟨hq5, hL5, rfl⟩ := v5 ⟨HO.out, hg⟩
      have cR := Lib.hid (show ∀ W, Below w.heap.size w W → Calls Try.prog 18 #[.agg #[.int .i64 z, .int .i64 d, .int .i64 s, .int .i64 l, .int .i64 a], .agg #[.slice x.A n x.c]] W fun e w' => e = .returned (.bool true) ∧ Below W.heap.size W w' from fun W hW => by
        have h9 := rtable_any true z d s l a x W HO.out (HX.out.next hW) (by rw [HXN.out]; omega) (iff_of_true rfl hg)
        unfold TV.v at h9
        rw [HXN.out] at h9
        exact h9)
      have HG := Lib.hid hg
      have HQ2 := Lib.hid hq2
      have HL2 := Lib.hid hL2
      have HQ5 := Lib.hid hq5
      have HL5 := Lib.hid hL5
      clear v1 v2 v5 v6 hg HV2 hq2 hL2 hq5 hL5 b13 b19
      go_upto_region 18 with (go_at_call 18; (with_reducible refine (cR.out _ hb0).mono ?_); rintro e wq ⟨rfl, hbq⟩; replace GG := GG.keep hbq (by omega); replace X1 := X1.keep hbq (by omega); replace l1 := Nat.lt_of_lt_of_le l1 hbq.size; clear g0 g1 g2 g3 g4 x0; obtain ⟨g0, g1, g2, g3, g4⟩ := id GG; have x0 := X1.c0; replace hb0 := bt hb0 hbq; replace U1 := U1.keep hbq lU; replace lU := Nat.lt_of_lt_of_le lU hbq.size; clear u0; have u0 := U1.c0; replace HUI := Lib.hid (HUI.out.next hbq); replace HYL := Lib.hid (fun h => (HYL.out h).next hbq); replace HJL := Lib.hid (fun h => (HJL.out h).next hbq); clear hbq)
      obtain ⟨w20, rfl⟩ : ∃ v, v = wq := ⟨wq, rfl⟩
      have o2 := HO.out.2.1
      clear cR
      go_wp2_with fail
      go_loopw [19, 20] (fun v i w' => ∃ k : Nat, k ≤ d.toNat ∧ i = .int .i64 k ∧ OwnV w' w20.heap.size 3 v (ints (lostN x.es k)) ∧ Below w20.heap.size w20 w') (fun _ i _ => d.toNat - (RowKit.intOf i).toNat)
      case atStart => exact ⟨0, Nat.zero_le _, rfl, ownV_nil _ _ _, Below.refl _ _⟩
      case round =>
        obtain ⟨w21, rfl⟩ : ∃ x, x = wr := ⟨wr, rfl⟩
        obtain ⟨k, hk, rfl, hown, hbr⟩ := hrel
        replace GG := GG.keep hbr (by omega)
        replace X1 := X1.keep hbr (by omega)
        replace U1 := U1.keep hbr lU
        replace l1 := Nat.lt_of_lt_of_le l1 hbr.size
        replace lU := Nat.lt_of_lt_of_le lU hbr.size
        clear g0 g1 g2 g3 g4 x0 u0
        obtain ⟨g0, g1, g2, g3, g4⟩ := id GG
        have x0 := X1.c0
        have u0 := U1.c0
        have hb1 := bt hb0 hbr
        have hlen := HG.out.1
        rw [HXN.out] at hlen
        have HLN := Lib.hid hlen
        clear hlen
        by_cases hlt : k < d.toNat
        · obtain ⟨b1, off, e0, hA1, hbb, c0, c1, c2, -, e1'⟩ := ent_at (HX.out.next hb1).h (show k < x.es.length by rw [HXN.out]; have := HLN.out; omega)
          rw [hA1] at x0
          have i3 : (k : Int) < d := by omega
          have i4 : (k : Int) < (n : Int) := by have := HLN.out; omega
          have hle := lostN_le x.es k
          have hni : (ints (lostN x.es k)).length ≤ 4 := by rw [ints_length]; omega
          have hnx : lostN x.es (k + 1) = lostN x.es k ++ (if e0.ls = true then [(k : Int)] else []) := by
            show lostN x.es k ++ (if (x.es[k]?.map Ent.ls).getD false then [(k : Int)] else []) = _
            rw [e1']
            rfl
          clear hA1 e1' hle
          by_cases hls : e0.ls = true
          · rw [if_pos hls] at hnx
            rw [hls] at c2
            have HNX := Lib.hid hnx
            clear hnx hls
            go_wp2_with (first
              | (at_builtin
                 refine wpList_appV _ rfl (.tmp 172) (.tmp 174) _ _ rfl w20.heap.size 3 tvI _ (ints (lostN x.es k)) rfl (hown.alloc _) _ [.int .i64 (k : Int)] rfl ((SlV.of_block (vs := [.int .i64 (k : Int)]) (heap_alloc_new _ _) rfl (Nat.lt_succ_self _)).src (ints_one [(k : Int)]) Try.underlying35 1) (by simp only [List.length_cons, List.length_nil]; unfold maxLen; omega) (by simp only [List.length_cons, List.length_nil]; omega) (by have := hbr.size; simp; omega) ?_
                 intro v8 w8 ho8 hg8 hat8
                 have hb8 : Below w20.heap.size w20 w8 := (hbr.alloc hbr.size (.cells #[.int .i64 (k : Int)] 3)).grown hg8 (by have := hbr.size; simp; omega) (fun q hq => (World.ownsRow.lt hown q hq).1)))
            go_roundw
            case rel => exact ⟨k + 1, by omega, by go_num, by rw [HNX.out, ints_append]; exact ho8, hb8⟩
            case measure => simp [RowKit.intOf]; omega
          · have hlf : e0.ls = false := by
              cases h : e0.ls with
              | false => rfl
              | true => exact absurd h hls
            rw [if_neg hls, List.append_nil] at hnx
            rw [hlf] at c2
            have HNX := Lib.hid hnx
            clear hnx hls hlf
            go_wp2_with fail
            go_roundw
            case rel => exact ⟨k + 1, by omega, by go_num, by rw [HNX.out]; exact hown, hbr⟩
            case measure => simp [RowKit.intOf]; omega
        · obtain rfl : k = d.toNat := by omega
          have i3 : ¬ ((d.toNat : Nat) : Int) < d := by omega
          obtain ⟨V, vc, hv, hv1, hv2, hvs, -⟩ := id hown.form
          rw [ints_length, ← HQ5.out] at hv
          subst hv
          have HVS := Lib.hid hvs
          have hYS := HYL.out (by trivial)
          have hJS := HJL.out (by trivial)
          have HYS := Lib.hid (hYS.next hbr)
          have HJS := Lib.hid (hJS.next hbr)
          have HUI2 := Lib.hid (HUI.out.next hbr)
          clear hown hvs hYS hJS HYL HJL HUI hv1 hv2
          have b21 := Below.refl w21.heap.size w21
          have HCU := Lib.hid (show ∀ W, Below w21.heap.size w21 W → Calls Try.prog 13 #[.agg #[.int .i64 z, .int .i64 d, .int .i64 s, .int .i64 l, .int .i64 a], .agg #[.slice u.A n u.c]] W fun e w' => e = .returned (.int .i64 0) ∧ Below W.heap.size W w' from fun W hW => by
            have h9 := HC.out.check true z d s l a u W (bt hb1 hW) HO.out (HUI2.out.next hW) (by rw [HUL.out]; omega) (iff_of_true rfl (by rw [HUE.out]; exact HG.out))
            unfold TV.v at h9
            rw [HUL.out] at h9
            exact h9)
          have HTB := Lib.hid (show ∀ W, Below w.heap.size w W → Calls Try.prog 20 #[.agg #[.slice x.A n x.c]] W fun e w' => BytQ W.heap.size q2 L2 e w' ∧ Below W.heap.size W w' from fun W hW => by
            have h9 := rbytes_tab x n q2 W (HX.out.next hW) HXN.out (by omega) HG.out.2.1 (by rw [HQ2.out, HXN.out])
            unfold TV.v at h9
            rw [HXN.out, ← HL2.out] at h9
            exact h9)
          have HKB := Lib.hid (show ∀ (W : World) (Z : Option Addr) (zc : Nat), Below w21.heap.size w21 W → Sl W W.heap.size Z L2 → Calls Try.prog 19 #[.slice Y q2 yc, .slice Z q2 zc] W fun e w' => e = .returned (.bool true) ∧ Below W.heap.size W w' from fun W Z zc hW h2 => by
            have hl : L2.length = q2 := by rw [HL2.out, HQ2.out, encT_length]
            have h9 := keep_short Y Z yc zc W.heap.size W.heap.size L2 L2 W rfl (HYS.out.next hW) h2 (Nat.le_refl _) (Nat.le_refl _) (by rw [hl, HQ2.out, HXN.out]; omega)
            rw [hl, decide_eq_true rfl] at h9
            exact h9)
          have HKI := Lib.hid (show ∀ W, Below w21.heap.size w21 W → Calls Try.prog 21 #[.slice J q5 jc, .slice V q5 vc] W fun e w' => e = .returned (.bool true) ∧ Below W.heap.size W w' from fun W hW => by
            have hle := lostN_le x.es d.toNat
            have h9 := ints_any J V jc vc W.heap.size W.heap.size q5 q5 L5 (lostN x.es d.toNat) W (by rw [HL5.out, HQ5.out]) HQ5.out.symm (HJS.out.next hW) (HVS.out.next hW) (Nat.le_refl _) (Nat.le_refl _) (by rw [HQ5.out]; omega)
            rw [decide_eq_true HL5.out] at h9
            exact h9)
          have HKT := Lib.hid (show ∀ W, Below w21.heap.size w21 W → Calls Try.prog 14 #[.agg #[.slice u.A n u.c], .agg #[.slice x.A n x.c]] W fun e w' => e = .returned (.bool true) ∧ Below W.heap.size W w' from fun W hW => by
            have h9 := tab_same u x W (HUI2.out.next hW) (HX.out.next (bt hb1 hW)) (by rw [HUL.out]; omega)
            unfold TV.v at h9
            rw [decide_eq_true HUE.out, HUL.out, HXN.out] at h9
            exact h9)
          clear hb0 hbr
          have hb0 := hb1
          clear hb1
          go_wp2_with (first
            | (go_at_call 13; (with_reducible refine (HCU.out _ b21).mono ?_); rintro e wq ⟨rfl, hbq⟩; replace GG := GG.keep hbq (by omega); replace X1 := X1.keep hbq (by omega); replace l1 := Nat.lt_of_lt_of_le l1 hbq.size; clear g0 g1 g2 g3 g4 x0; obtain ⟨g0, g1, g2, g3, g4⟩ := id GG; have x0 := X1.c0; replace hb0 := bt hb0 hbq; replace U1 := U1.keep hbq lU; replace lU := Nat.lt_of_lt_of_le lU hbq.size; clear u0; have u0 := U1.c0; replace b21 := bt b21 hbq; clear hbq)
            | (go_at_call 20; (with_reducible refine (HTB.out _ hb0).mono ?_); rintro e wq ⟨⟨Z, zc, rfl, -, hzo⟩, hbq⟩; have hzs := own_sl hzo; clear hzo; replace GG := GG.keep hbq (by omega); replace X1 := X1.keep hbq (by omega); replace l1 := Nat.lt_of_lt_of_le l1 hbq.size; clear g0 g1 g2 g3 g4 x0; obtain ⟨g0, g1, g2, g3, g4⟩ := id GG; have x0 := X1.c0; replace hb0 := bt hb0 hbq; replace U1 := U1.keep hbq lU; replace lU := Nat.lt_of_lt_of_le lU hbq.size; clear u0; have u0 := U1.c0; replace b21 := bt b21 hbq; clear hbq)
            | (go_at_call 19; (with_reducible refine (HKB.out _ _ _ b21 hzs).mono ?_); rintro e wq ⟨rfl, hbq⟩; replace GG := GG.keep hbq (by omega); replace X1 := X1.keep hbq (by omega); replace l1 := Nat.lt_of_lt_of_le l1 hbq.size; clear g0 g1 g2 g3 g4 x0; obtain ⟨g0, g1, g2, g3, g4⟩ := id GG; have x0 := X1.c0; replace hb0 := bt hb0 hbq; replace U1 := U1.keep hbq lU; replace lU := Nat.lt_of_lt_of_le lU hbq.size; clear u0; have u0 := U1.c0; replace b21 := bt b21 hbq; clear hbq hzs)
            | (go_at_call 21; (with_reducible refine (HKI.out _ b21).mono ?_); rintro e wq ⟨rfl, hbq⟩; replace GG := GG.keep hbq (by omega); replace X1 := X1.keep hbq (by omega); replace l1 := Nat.lt_of_lt_of_le l1 hbq.size; clear g0 g1 g2 g3 g4 x0; obtain ⟨g0, g1, g2, g3, g4⟩ := id GG; have x0 := X1.c0; replace hb0 := bt hb0 hbq; replace U1 := U1.keep hbq lU; replace lU := Nat.lt_of_lt_of_le lU hbq.size; clear u0; have u0 := U1.c0; replace b21 := bt b21 hbq; clear hbq)
            | (go_at_call 14; (with_reducible refine (HKT.out _ b21).mono ?_); rintro e wq ⟨rfl, hbq⟩; replace GG := GG.keep hbq (by omega); replace X1 := X1.keep hbq (by omega); replace l1 := Nat.lt_of_lt_of_le l1 hbq.size; clear g0 g1 g2 g3 g4 x0; obtain ⟨g0, g1, g2, g3, g4⟩ := id GG; have x0 := X1.c0; replace hb0 := bt hb0 hbq; replace U1 := U1.keep hbq lU; replace lU := Nat.lt_of_lt_of_le lU hbq.size; clear u0; have u0 := U1.c0; replace b21 := bt b21 hbq; clear hbq)
            | (go_at_call 15; (with_reducible refine (HWK.out _ hb0).mono ?_); rintro e wz ⟨rfl, hbz⟩))
          go_ret
          exact ⟨rfl, bt hb0 hbz⟩
    have HLEN := Lib.hid (show es3.length ≤ 1048576 from by rw [(HV2.out.2.2.2.1 HO.out htold).1]; decide)
    obtain ⟨v1, v2, v3, v4, v5, v6⟩ := HV2.out
    obtain ⟨hes3, rfl⟩ := v4 HO.out htold
    have HRT := Lib.hid (show ∀ W, Below w.heap.size w W → Calls Try.prog 17 #[.agg #[.int .i64 z, .int .i64 d, .int .i64 s, .int .i64 l, .int .i64 a], .slice A m cap] W fun e w' => RdT W.heap.size es3 false e w' ∧ Below W.heap.size W w' from fun W hW => by
      have h9 := rread_tab false z d s l a A m cap b W HO.out HBM.out hcap hmax (HA.out.next hW) (iff_of_false Bool.false_ne_true htold)
      rw [if_neg (by decide), ← hes3] at h9
      exact h9)
    clear hes3 htold v1 v2 v3 v4 v5 v6
    go_upto_region 14 with (go_at_call 17; (with_reducible refine (HRT.out _ hb0).mono ?_); rintro e w17 ⟨⟨t2, het, hte, hto⟩, hbq⟩; rw [TV.v] at het; subst het; have HT2 := Lib.hid hte; clear hte; replace GG := GG.keep hbq (by omega); replace X1 := X1.keep hbq (by omega); replace l1 := Nat.lt_of_lt_of_le l1 hbq.size; clear g0 g1 g2 g3 g4 x0; obtain ⟨g0, g1, g2, g3, g4⟩ := id GG; have x0 := X1.c0; replace hb0 := bt hb0 hbq; replace U1 := U1.keep hbq lU; replace lU := Nat.lt_of_lt_of_le lU hbq.size; clear u0; have u0 := U1.c0; replace F1 := F1.keep hbq lF; replace lF := Nat.lt_of_lt_of_le lF hbq.size; clear f0; have f0 := F1.c0; replace R1 := R1.keep hbq lR; replace lR := Nat.lt_of_lt_of_le lR hbq.size; clear r0; have r0 := R1.c0; replace N1 := N1.keep hbq lN; replace lN := Nat.lt_of_lt_of_le lN hbq.size; clear n0; have n0 := N1.c0; replace HUI := Lib.hid (HUI.out.next hbq); replace HFI := Lib.hid (HFI.out.next hbq); replace HYL := Lib.hid (fun h => (HYL.out h).next hbq); replace HRI := Lib.hid (HRI.out.next hbq); replace HJL := Lib.hid (fun h => (HJL.out h).next hbq); replace b13 := bt b13 hbq; clear hbq)
    have HTI := Lib.hid (TV.Own.inn hto)
    clear hto HRT
    have hxq := bl w17 (.cells #[.slice t2.A t2.es.length t2.c] 26)
    have M1 := c1_new w17 (.slice t2.A t2.es.length t2.c) 26
    replace GG := GG.keep hxq (by omega); replace X1 := X1.keep hxq (by omega); replace l1 := Nat.lt_of_lt_of_le l1 hxq.size; clear g0 g1 g2 g3 g4 x0; obtain ⟨g0, g1, g2, g3, g4⟩ := id GG; have x0 := X1.c0; replace hb0 := bt hb0 hxq; replace U1 := U1.keep hxq lU; replace lU := Nat.lt_of_lt_of_le lU hxq.size; clear u0; have u0 := U1.c0; replace F1 := F1.keep hxq lF; replace lF := Nat.lt_of_lt_of_le lF hxq.size; clear f0; have f0 := F1.c0; replace R1 := R1.keep hxq lR; replace lR := Nat.lt_of_lt_of_le lR hxq.size; clear r0; have r0 := R1.c0; replace N1 := N1.keep hxq lN; replace lN := Nat.lt_of_lt_of_le lN hxq.size; clear n0; have n0 := N1.c0; replace HUI := Lib.hid (HUI.out.next hxq); replace HFI := Lib.hid (HFI.out.next hxq); replace HYL := Lib.hid (fun h => (HYL.out h).next hxq); replace HRI := Lib.hid (HRI.out.next hxq); replace HJL := Lib.hid (fun h => (HJL.out h).next hxq); replace HTI := Lib.hid (HTI.out.next hxq); replace b13 := bt b13 hxq
    obtain ⟨gT2, hgT2⟩ : ∃ g, g = w17.heap.size := ⟨_, rfl⟩
    have lM : gT2 < (w17.alloc (.cells #[.slice t2.A t2.es.length t2.c] 26)).heap.size := by rw [hgT2]; simp
    rw [← hgT2] at M1 ⊢
    clear hgT2 hxq
    generalize w17.alloc (.cells #[.slice t2.A t2.es.length t2.c] 26) = w18 at *
    have m0 := M1.c0
    have HKR := Lib.hid (show ∀ W, Below w18.heap.size w18 W → Calls Try.prog 14 #[.agg #[.slice r.A r.es.length r.c], .agg #[.slice t2.A t2.es.length t2.c]] W fun e w' => e = .returned (.bool true) ∧ Below W.heap.size W w' from fun W hW => by
      have h9 := tab_same r t2 W (HRI.out.next hW) (HTI.out.next hW) (by have := TV.In.l HRI.out; rw [HRE.out]; exact HLEN.out)
      rwa [decide_eq_true (HRE.out.trans HT2.out.symm)] at h9)
    go_upto_region 16 with (go_at_call 14; (with_reducible refine (HKR.out _ (Below.refl _ _)).mono ?_); rintro e wq ⟨rfl, hbq⟩; replace GG := GG.keep hbq (by omega); replace X1 := X1.keep hbq (by omega); replace l1 := Nat.lt_of_lt_of_le l1 hbq.size; clear g0 g1 g2 g3 g4 x0; obtain ⟨g0, g1, g2, g3, g4⟩ := id GG; have x0 := X1.c0; replace hb0 := bt hb0 hbq; replace U1 := U1.keep hbq lU; replace lU := Nat.lt_of_lt_of_le lU hbq.size; clear u0; have u0 := U1.c0; replace F1 := F1.keep hbq lF; replace lF := Nat.lt_of_lt_of_le lF hbq.size; clear f0; have f0 := F1.c0; replace R1 := R1.keep hbq lR; replace lR := Nat.lt_of_lt_of_le lR hbq.size; clear r0; have r0 := R1.c0; replace N1 := N1.keep hbq lN; replace lN := Nat.lt_of_lt_of_le lN hbq.size; clear n0; have n0 := N1.c0; replace M1 := M1.keep hbq lM; replace lM := Nat.lt_of_lt_of_le lM hbq.size; clear m0; have m0 := M1.c0; replace HUI := Lib.hid (HUI.out.next hbq); replace HFI := Lib.hid (HFI.out.next hbq); replace HYL := Lib.hid (fun h => (HYL.out h).next hbq); replace HRI := Lib.hid (HRI.out.next hbq); replace HJL := Lib.hid (fun h => (HJL.out h).next hbq); replace HTI := Lib.hid (HTI.out.next hbq); replace b13 := bt b13 hbq; clear hbq)
    clear HKR
    clear r0 f0 n0 m0 R1 F1 N1 M1 lR lF lN lM HTI HRI HFI HT2 HRE HFE HFE2
    obtain ⟨v1, v2, -, -, v5, v6⟩ := HV2.out
    obtain ⟨w19, rfl⟩ : ∃ v, v = wq := ⟨wq, rfl⟩
    have b19 := Below.refl w19.heap.size w19
    by_cases hg : Good d x.es
    case neg =>
      obtain ⟨rfl, rfl⟩ := v2 (fun h => hg h.2)
      obtain ⟨rfl, rfl⟩ := v6 (fun h => hg h.2)
      have HCU := Lib.hid (show ∀ W, Below w19.heap.size w19 W → Calls Try.prog 13 #[.agg #[.int .i64 z, .int .i64 d, .int .i64 s, .int .i64 l, .int .i64 a], .agg #[.slice u.A n u.c]] W fun e w' => e = .returned (.int .i64 1) ∧ Below W.heap.size W w' from fun W hW => by
        have h9 := HC.out.check false z d s l a u W (bt hb0 hW) HO.out (HUI.out.next hW) (by rw [HUL.out]; omega) (iff_of_false Bool.false_ne_true (by rw [HUE.out]; exact hg))
        unfold TV.v at h9
        rw [HUL.out] at h9
        exact h9)
      have cR := Lib.hid (show ∀ W, Below w.heap.size w W → Calls Try.prog 18 #[.agg #[.int .i64 z, .int .i64 d, .int .i64 s, .int .i64 l, .int .i64 a], .agg #[.slice x.A n x.c]] W fun e w' => e = .returned (.bool false) ∧ Below W.heap.size W w' from fun W hW => by
        have h9 := rtable_any false z d s l a x W HO.out (HX.out.next hW) (by rw [HXN.out]; omega) (iff_of_false Bool.false_ne_true hg)
        unfold TV.v at h9
        rw [HXN.out] at h9
        exact h9)
      clear v1 v2 v5 v6 hg HV2 HYL HJL HUI b13
      go_wp2_with (first
        | (go_at_call 18; (with_reducible refine (cR.out _ hb0).mono ?_); rintro e wq ⟨rfl, hbq⟩; replace GG := GG.keep hbq (by omega); replace X1 := X1.keep hbq (by omega); replace l1 := Nat.lt_of_lt_of_le l1 hbq.size; clear g0 g1 g2 g3 g4 x0; obtain ⟨g0, g1, g2, g3, g4⟩ := id GG; have x0 := X1.c0; replace hb0 := bt hb0 hbq; replace U1 := U1.keep hbq lU; replace lU := Nat.lt_of_lt_of_le lU hbq.size; clear u0; have u0 := U1.c0; replace b19 := bt b19 hbq; clear hbq)
        | (go_at_call 13; (with_reducible refine (HCU.out _ b19).mono ?_); rintro e wq ⟨rfl, hbq⟩; replace GG := GG.keep hbq (by omega); replace X1 := X1.keep hbq (by omega); replace l1 := Nat.lt_of_lt_of_le l1 hbq.size; clear g0 g1 g2 g3 g4 x0; obtain ⟨g0, g1, g2, g3, g4⟩ := id GG; have x0 := X1.c0; replace hb0 := bt hb0 hbq; replace U1 := U1.keep hbq lU; replace lU := Nat.lt_of_lt_of_le lU hbq.size; clear u0; have u0 := U1.c0; replace b19 := bt b19 hbq; clear hbq)
        | (go_at_call 15; (with_reducible refine (HWK.out _ hb0).mono ?_); rintro e wz ⟨rfl, hbz⟩))
      go_ret
      exact ⟨rfl, bt hb0 hbz⟩
    obtain ⟨hq2, hL2, rfl⟩ := v1 ⟨HO.out, hg⟩
    obtain ⟨hq5, hL5, rfl⟩ := v5 ⟨HO.out, hg⟩
    have cR := Lib.hid (show ∀ W, Below w.heap.size w W → Calls Try.prog 18 #[.agg #[.int .i64 z, .int .i64 d, .int .i64 s, .int .i64 l, .int .i64 a], .agg #[.slice x.A n x.c]] W fun e w' => e = .returned (.bool true) ∧ Below W.heap.size W w' from fun W hW => by
      have h9 := rtable_any true z d s l a x W HO.out (HX.out.next hW) (by rw [HXN.out]; omega) (iff_of_true rfl hg)
      unfold TV.v at h9
      rw [HXN.out] at h9
      exact h9)
    have HG := Lib.hid hg
    have HQ2 := Lib.hid hq2
    have HL2 := Lib.hid hL2
    have HQ5 := Lib.hid hq5
    have HL5 := Lib.hid hL5
    clear v1 v2 v5 v6 hg HV2 hq2 hL2 hq5 hL5 b13 b19
    go_upto_region 18 with (go_at_call 18; (with_reducible refine (cR.out _ hb0).mono ?_); rintro e wq ⟨rfl, hbq⟩; replace GG := GG.keep hbq (by omega); replace X1 := X1.keep hbq (by omega); replace l1 := Nat.lt_of_lt_of_le l1 hbq.size; clear g0 g1 g2 g3 g4 x0; obtain ⟨g0, g1, g2, g3, g4⟩ := id GG; have x0 := X1.c0; replace hb0 := bt hb0 hbq; replace U1 := U1.keep hbq lU; replace lU := Nat.lt_of_lt_of_le lU hbq.size; clear u0; have u0 := U1.c0; replace HUI := Lib.hid (HUI.out.next hbq); replace HYL := Lib.hid (fun h => (HYL.out h).next hbq); replace HJL := Lib.hid (fun h => (HJL.out h).next hbq); clear hbq)
    obtain ⟨w20, rfl⟩ : ∃ v, v = wq := ⟨wq, rfl⟩
    have o2 := HO.out.2.1
    clear cR
    go_wp2_with fail
    go_loopw [19, 20] (fun v i w' => ∃ k : Nat, k ≤ d.toNat ∧ i = .int .i64 k ∧ OwnV w' w20.heap.size 3 v (ints (lostN x.es k)) ∧ Below w20.heap.size w20 w') (fun _ i _ => d.toNat - (RowKit.intOf i).toNat)
    case atStart => exact ⟨0, Nat.zero_le _, rfl, ownV_nil _ _ _, Below.refl _ _⟩
    case round =>
      obtain ⟨w21, rfl⟩ : ∃ x, x = wr := ⟨wr, rfl⟩
      obtain ⟨k, hk, rfl, hown, hbr⟩ := hrel
      replace GG := GG.keep hbr (by omega)
      replace X1 := X1.keep hbr (by omega)
      replace U1 := U1.keep hbr lU
      replace l1 := Nat.lt_of_lt_of_le l1 hbr.size
      replace lU := Nat.lt_of_lt_of_le lU hbr.size
      clear g0 g1 g2 g3 g4 x0 u0
      obtain ⟨g0, g1, g2, g3, g4⟩ := id GG
      have x0 := X1.c0
      have u0 := U1.c0
      have hb1 := bt hb0 hbr
      have hlen := HG.out.1
      rw [HXN.out] at hlen
      have HLN := Lib.hid hlen
      clear hlen
      by_cases hlt : k < d.toNat
      · obtain ⟨b1, off, e0, hA1, hbb, c0, c1, c2, -, e1'⟩ := ent_at (HX.out.next hb1).h (show k < x.es.length by rw [HXN.out]; have := HLN.out; omega)
        rw [hA1] at x0
        have i3 : (k : Int) < d := by omega
        have i4 : (k : Int) < (n : Int) := by have := HLN.out; omega
        have hle := lostN_le x.es k
        have hni : (ints (lostN x.es k)).length ≤ 4 := by rw [ints_length]; omega
        have hnx : lostN x.es (k + 1) = lostN x.es k ++ (if e0.ls = true then [(k : Int)] else []) := by
          show lostN x.es k ++ (if (x.es[k]?.map Ent.ls).getD false then [(k : Int)] else []) = _
          rw [e1']
          rfl
        clear hA1 e1' hle
        by_cases hls : e0.ls = true
        · rw [if_pos hls] at hnx
          rw [hls] at c2
          have HNX := Lib.hid hnx
          clear hnx hls
          go_wp2_with (first
            | (at_builtin
               refine wpList_appV _ rfl (.tmp 172) (.tmp 174) _ _ rfl w20.heap.size 3 tvI _ (ints (lostN x.es k)) rfl (hown.alloc _) _ [.int .i64 (k : Int)] rfl ((SlV.of_block (vs := [.int .i64 (k : Int)]) (heap_alloc_new _ _) rfl (Nat.lt_succ_self _)).src (ints_one [(k : Int)]) Try.underlying35 1) (by simp only [List.length_cons, List.length_nil]; unfold maxLen; omega) (by simp only [List.length_cons, List.length_nil]; omega) (by have := hbr.size; simp; omega) ?_
               intro v8 w8 ho8 hg8 hat8
               have hb8 : Below w20.heap.size w20 w8 := (hbr.alloc hbr.size (.cells #[.int .i64 (k : Int)] 3)).grown hg8 (by have := hbr.size; simp; omega) (fun q hq => (World.ownsRow.lt hown q hq).1)))
          go_roundw
          case rel => exact ⟨k + 1, by omega, by go_num, by rw [HNX.out, ints_append]; exact ho8, hb8⟩
          case measure => simp [RowKit.intOf]; omega
        · have hlf : e0.ls = false := by
            cases h : e0.ls with
            | false => rfl
            | true => exact absurd h hls
          rw [if_neg hls, List.append_nil] at hnx
          rw [hlf] at c2
          have HNX := Lib.hid hnx
          clear hnx hls hlf
          go_wp2_with fail
          go_roundw
          case rel => exact ⟨k + 1, by omega, by go_num, by rw [HNX.out]; exact hown, hbr⟩
          case measure => simp [RowKit.intOf]; omega
      · obtain rfl : k = d.toNat := by omega
        have i3 : ¬ ((d.toNat : Nat) : Int) < d := by omega
        obtain ⟨V, vc, hv, hv1, hv2, hvs, -⟩ := id hown.form
        rw [ints_length, ← HQ5.out] at hv
        subst hv
        have HVS := Lib.hid hvs
        have hYS := HYL.out (by trivial)
        have hJS := HJL.out (by trivial)
        have HYS := Lib.hid (hYS.next hbr)
        have HJS := Lib.hid (hJS.next hbr)
        have HUI2 := Lib.hid (HUI.out.next hbr)
        clear hown hvs hYS hJS HYL HJL HUI hv1 hv2
        have b21 := Below.refl w21.heap.size w21
        have HCU := Lib.hid (show ∀ W, Below w21.heap.size w21 W → Calls Try.prog 13 #[.agg #[.int .i64 z, .int .i64 d, .int .i64 s, .int .i64 l, .int .i64 a], .agg #[.slice u.A n u.c]] W fun e w' => e = .returned (.int .i64 0) ∧ Below W.heap.size W w' from fun W hW => by
          have h9 := HC.out.check true z d s l a u W (bt hb1 hW) HO.out (HUI2.out.next hW) (by rw [HUL.out]; omega) (iff_of_true rfl (by rw [HUE.out]; exact HG.out))
          unfold TV.v at h9
          rw [HUL.out] at h9
          exact h9)
        have HTB := Lib.hid (show ∀ W, Below w.heap.size w W → Calls Try.prog 20 #[.agg #[.slice x.A n x.c]] W fun e w' => BytQ W.heap.size q2 L2 e w' ∧ Below W.heap.size W w' from fun W hW => by
          have h9 := rbytes_tab x n q2 W (HX.out.next hW) HXN.out (by omega) HG.out.2.1 (by rw [HQ2.out, HXN.out])
          unfold TV.v at h9
          rw [HXN.out, ← HL2.out] at h9
          exact h9)
        have HKB := Lib.hid (show ∀ (W : World) (Z : Option Addr) (zc : Nat), Below w21.heap.size w21 W → Sl W W.heap.size Z L2 → Calls Try.prog 19 #[.slice Y q2 yc, .slice Z q2 zc] W fun e w' => e = .returned (.bool true) ∧ Below W.heap.size W w' from fun W Z zc hW h2 => by
          have hl : L2.length = q2 := by rw [HL2.out, HQ2.out, encT_length]
          have h9 := keep_short Y Z yc zc W.heap.size W.heap.size L2 L2 W rfl (HYS.out.next hW) h2 (Nat.le_refl _) (Nat.le_refl _) (by rw [hl, HQ2.out, HXN.out]; omega)
          rw [hl, decide_eq_true rfl] at h9
          exact h9)
        have HKI := Lib.hid (show ∀ W, Below w21.heap.size w21 W → Calls Try.prog 21 #[.slice J q5 jc, .slice V q5 vc] W fun e w' => e = .returned (.bool true) ∧ Below W.heap.size W w' from fun W hW => by
          have hle := lostN_le x.es d.toNat
          have h9 := ints_any J V jc vc W.heap.size W.heap.size q5 q5 L5 (lostN x.es d.toNat) W (by rw [HL5.out, HQ5.out]) HQ5.out.symm (HJS.out.next hW) (HVS.out.next hW) (Nat.le_refl _) (Nat.le_refl _) (by rw [HQ5.out]; omega)
          rw [decide_eq_true HL5.out] at h9
          exact h9)
        have HKT := Lib.hid (show ∀ W, Below w21.heap.size w21 W → Calls Try.prog 14 #[.agg #[.slice u.A n u.c], .agg #[.slice x.A n x.c]] W fun e w' => e = .returned (.bool true) ∧ Below W.heap.size W w' from fun W hW => by
          have h9 := tab_same u x W (HUI2.out.next hW) (HX.out.next (bt hb1 hW)) (by rw [HUL.out]; omega)
          unfold TV.v at h9
          rw [decide_eq_true HUE.out, HUL.out, HXN.out] at h9
          exact h9)
        clear hb0 hbr
        have hb0 := hb1
        clear hb1
        go_wp2_with (first
          | (go_at_call 13; (with_reducible refine (HCU.out _ b21).mono ?_); rintro e wq ⟨rfl, hbq⟩; replace GG := GG.keep hbq (by omega); replace X1 := X1.keep hbq (by omega); replace l1 := Nat.lt_of_lt_of_le l1 hbq.size; clear g0 g1 g2 g3 g4 x0; obtain ⟨g0, g1, g2, g3, g4⟩ := id GG; have x0 := X1.c0; replace hb0 := bt hb0 hbq; replace U1 := U1.keep hbq lU; replace lU := Nat.lt_of_lt_of_le lU hbq.size; clear u0; have u0 := U1.c0; replace b21 := bt b21 hbq; clear hbq)
          | (go_at_call 20; (with_reducible refine (HTB.out _ hb0).mono ?_); rintro e wq ⟨⟨Z, zc, rfl, -, hzo⟩, hbq⟩; have hzs := own_sl hzo; clear hzo; replace GG := GG.keep hbq (by omega); replace X1 := X1.keep hbq (by omega); replace l1 := Nat.lt_of_lt_of_le l1 hbq.size; clear g0 g1 g2 g3 g4 x0; obtain ⟨g0, g1, g2, g3, g4⟩ := id GG; have x0 := X1.c0; replace hb0 := bt hb0 hbq; replace U1 := U1.keep hbq lU; replace lU := Nat.lt_of_lt_of_le lU hbq.size; clear u0; have u0 := U1.c0; replace b21 := bt b21 hbq; clear hbq)
          | (go_at_call 19; (with_reducible refine (HKB.out _ _ _ b21 hzs).mono ?_); rintro e wq ⟨rfl, hbq⟩; replace GG := GG.keep hbq (by omega); replace X1 := X1.keep hbq (by omega); replace l1 := Nat.lt_of_lt_of_le l1 hbq.size; clear g0 g1 g2 g3 g4 x0; obtain ⟨g0, g1, g2, g3, g4⟩ := id GG; have x0 := X1.c0; replace hb0 := bt hb0 hbq; replace U1 := U1.keep hbq lU; replace lU := Nat.lt_of_lt_of_le lU hbq.size; clear u0; have u0 := U1.c0; replace b21 := bt b21 hbq; clear hbq hzs)
          | (go_at_call 21; (with_reducible refine (HKI.out _ b21).mono ?_); rintro e wq ⟨rfl, hbq⟩; replace GG := GG.keep hbq (by omega); replace X1 := X1.keep hbq (by omega); replace l1 := Nat.lt_of_lt_of_le l1 hbq.size; clear g0 g1 g2 g3 g4 x0; obtain ⟨g0, g1, g2, g3, g4⟩ := id GG; have x0 := X1.c0; replace hb0 := bt hb0 hbq; replace U1 := U1.keep hbq lU; replace lU := Nat.lt_of_lt_of_le lU hbq.size; clear u0; have u0 := U1.c0; replace b21 := bt b21 hbq; clear hbq)
          | (go_at_call 14; (with_reducible refine (HKT.out _ b21).mono ?_); rintro e wq ⟨rfl, hbq⟩; replace GG := GG.keep hbq (by omega); replace X1 := X1.keep hbq (by omega); replace l1 := Nat.lt_of_lt_of_le l1 hbq.size; clear g0 g1 g2 g3 g4 x0; obtain ⟨g0, g1, g2, g3, g4⟩ := id GG; have x0 := X1.c0; replace hb0 := bt hb0 hbq; replace U1 := U1.keep hbq lU; replace lU := Nat.lt_of_lt_of_le lU hbq.size; clear u0; have u0 := U1.c0; replace b21 := bt b21 hbq; clear hbq)
          | (go_at_call 15; (with_reducible refine (HWK.out _ hb0).mono ?_); rintro e wz ⟨rfl, hbz⟩))
        go_ret
        exact ⟨rfl, bt hb0 hbz⟩
end Go.Proofs.Ytldknkikekaifaa.tbl
