/-
  The law EntryExact, walked. Conditions: none.
-/
import Derived.Test.YtejfehkcjcohdaaEnF
import Derived.Test.YtejfehkcjcohdaaNwH
import Derived.Test.YtejfehkcjcohdaaGGm
import Derived.Deep.RegionHeld3
namespace Go.Proofs.Ytejfehkcjcohdaa.ent
open Go.RowKit Go.Lib
open Go.Proofs.Ytejfehkcjcohdaa.gmt (Ok)
open Go.Proofs.Ytejfehkcjcohdaa.anc (bl kal kst ks bm ka)
open Go.Proofs.Ytejfehkcjcohdaa.sel (Three three_new Lies opened Opn no opened_err enc enc_opened open_any)
open Go.Proofs.Ytejfehkcjcohdaa.tbl (Ent EntOk entsN TV C1 c1_new G5 g5_new TbE)
open Go.Proofs.Ytejfehkcjcohdaa.tbl (RdT tab_same noTV noTV_own rentry_any)

/-- One reading in a row of its own: is it more than the laws play? -/
theorem heavy_one (b : Bool) (e : Int) (A : Option Addr) (n k : Nat) (y : List UInt8) (w : World) (hn : y.length = n) (hk : n ≤ k) (hm : k ≤ maxLen) (hA : Sl w w.heap.size A y) (hb : b = true ↔ 300 < n) :
    Calls Try.prog 8 #[.slice (some ⟨w.heap.size, 0, none⟩) 1 1] (w.alloc (.cells #[.int .i64 e, .slice A n k] 27)) fun r w' => r = .returned (.bool b) ∧ w.alloc (.cells #[.int .i64 e, .slice A n k] 27) = w' := by
  subst hn
  have hx := bl w (.cells #[.int .i64 e, .slice A y.length k] 27)
  have D := duo_new w (.int .i64 e) (.slice A y.length k) 27
  refine nwt.heavyG_any b _ 1 1 [⟨e, A, k, y⟩] _ rfl ?_ ?_ ?_
  · intro _
    refine ⟨w.heap.size, 0, rfl, by simp, fun j hj => ?_⟩
    have hj2 : j < 2 := hj
    have h3 : j = 0 ∨ j = 1 := by omega
    rcases h3 with rfl | rfl
    · exact D.c0
    · exact D.c1
  · intro r hr
    obtain rfl := List.mem_singleton.1 hr
    exact ⟨hA.next hx, hk, hm⟩
  · rw [hb]
    unfold nwt.HeavyG nwt.gds
    simp [nwt.GotR.d]
/-- An entry made, or why not: one way. -/
theorem make_ex (root : Int) (B : Option Addr) (m q : Nat) (y : List UInt8) (w : World) (hm : y.length = m) (hB : Sl w w.heap.size B y) : ∃ ms mm er : Int, (∀ W, Below w.heap.size w W → Calls Try.prog 12 #[.int .i64 root, .slice B m q] W fun e w' => e = .returned (.tuple #[.agg #[.int .i64 ms, .int .i64 mm, .bool false], .int .i64 er]) ∧ Below W.heap.size W w') ∧
    (¬ (0 ≤ root ∧ root ≤ 4294967295) → ms = 0 ∧ mm = 0 ∧ er = 1) ∧ ((0 ≤ root ∧ root ≤ 4294967295) → m ≠ 8 → ms = 0 ∧ mm = 0 ∧ er = 2) ∧ ((0 ≤ root ∧ root ≤ 4294967295) → m = 8 → root = ms ∧ mm = ((crc.sum y : Nat) : Int) ∧ er = 0) := by
  by_cases h1 : 0 ≤ root ∧ root ≤ 4294967295
  · by_cases h2 : m = 8
    · refine ⟨root, _, 0, fun W hW => ?_, fun h => absurd h1 h, fun _ h => absurd h2 h, fun _ _ => ⟨rfl, rfl, rfl⟩⟩
      subst h2
      exact mak_ok root B q y W h1 hm (hB.next hW)
    · exact ⟨0, 0, 2, fun W _ => mak_len root B m q W h1 h2, fun h => absurd h1 h, fun _ _ => ⟨rfl, rfl, rfl⟩, fun _ h => absurd h h2⟩
  · exact ⟨0, 0, 1, fun W _ => mak_arg root B m q W h1, fun _ => ⟨rfl, rfl, rfl⟩, fun h => absurd h h1, fun h => absurd h h1⟩
set_option maxRecDepth 100000 in
set_option maxHeartbeats 8000000 in
theorem ex_heavy (z d s l a e addr st sm root : Int) (ls : Bool) (A B : Option Addr) (n k m q : Nat) (b y : List UInt8) (w : World) (hn : b.length = n) (hm : y.length = m) (hk : n ≤ k) (hkm : k ≤ maxLen) (hA : Sl w w.heap.size A b) (hB : Sl w w.heap.size B y) (h : 300 < n ∨ 100 < m) :
    Calls Try.prog 3 #[.agg #[.int .i64 z, .int .i64 d, .int .i64 s, .int .i64 l, .int .i64 a], .agg #[.int .i64 e, .slice A n k], .int .i64 addr, .agg #[.int .i64 st, .int .i64 sm, .bool ls], .int .i64 root, .slice B m q] w fun e w' => e = .returned (.bool true) ∧ Below w.heap.size w w' := by
  obtain ⟨hv, hvv⟩ : ∃ hv : Bool, hv = true ↔ 300 < n := ⟨decide (300 < n), by simp⟩
  have h' : hv = true ∨ hv = false ∧ 100 < m := by
    cases hv
    · exact .inr ⟨rfl, h.resolve_left fun k => Bool.false_ne_true (hvv.2 k)⟩
    · exact .inl rfl
  clear h
  have s1 : (w.alloc (.cells #[.int .i64 z, .int .i64 d, .int .i64 s, .int .i64 l, .int .i64 a] 23)).heap.size = w.heap.size + 1 := by simp
  have s2 : ((w.alloc (.cells #[.int .i64 z, .int .i64 d, .int .i64 s, .int .i64 l, .int .i64 a] 23)).alloc (.cells #[.int .i64 e, .slice A n k] 27)).heap.size = w.heap.size + 2 := by simp
  have hx2 := bl (w.alloc (.cells #[.int .i64 z, .int .i64 d, .int .i64 s, .int .i64 l, .int .i64 a] 23)) (.cells #[.int .i64 e, .slice A n k] 27)
  have hx3 := bl ((w.alloc (.cells #[.int .i64 z, .int .i64 d, .int .i64 s, .int .i64 l, .int .i64 a] 23)).alloc (.cells #[.int .i64 e, .slice A n k] 27)) (.cells #[.int .i64 st, .int .i64 sm, .bool ls] 29)
  have GG := ((g5_new w z d s l a).keep hx2 (by omega)).keep hx3 (by omega)
  have XX := duo_new (w.alloc (.cells #[.int .i64 z, .int .i64 d, .int .i64 s, .int .i64 l, .int .i64 a] 23)) (.int .i64 e) (.slice A n k) 27
  rw [s1] at XX
  replace XX := XX.keep hx3 (by omega)
  have EE := three_new ((w.alloc (.cells #[.int .i64 z, .int .i64 d, .int .i64 s, .int .i64 l, .int .i64 a] 23)).alloc (.cells #[.int .i64 e, .slice A n k] 27)) (.int .i64 st) (.int .i64 sm) (.bool ls) 29
  rw [s2] at EE
  have hx := kal (kal (bl w (.cells #[.int .i64 z, .int .i64 d, .int .i64 s, .int .i64 l, .int .i64 a] 23)) (.cells #[.int .i64 e, .slice A n k] 27)) (.cells #[.int .i64 st, .int .i64 sm, .bool ls] 29)
  have l3 : w.heap.size + 2 < (((w.alloc (.cells #[.int .i64 z, .int .i64 d, .int .i64 s, .int .i64 l, .int .i64 a] 23)).alloc (.cells #[.int .i64 e, .slice A n k] 27)).alloc (.cells #[.int .i64 st, .int .i64 sm, .bool ls] 29)).heap.size := by simp
  have HBB := Lib.hid (hA.next hx)
  have HYY := Lib.hid (hB.next hx)
  have HBL := Lib.hid hn
  have HYL := Lib.hid hm
  clear s1 s2 hx2 hx3 hA hB hn hm
  go_enter Try.func3, Try.ntmps3
  go_upto_region 1 with fail
  generalize (((w.alloc (.cells #[.int .i64 z, .int .i64 d, .int .i64 s, .int .i64 l, .int .i64 a] 23)).alloc (.cells #[.int .i64 e, .slice A n k] 27)).alloc (.cells #[.int .i64 st, .int .i64 sm, .bool ls] 29)) = w0 at *
  have HHV := Lib.hid (heavy_one hv e A n k b w0 HBL.out hk hkm HBB.out hvv)
  clear hk hkm hvv
  obtain ⟨x0, x1, -, -⟩ := id XX
  have hxA := bl w0 (.cells #[.int .i64 e, .slice A n k] 27)
  rcases h' with h' | ⟨h', h2⟩
  · go_wp2_with (go_at_call 8; (with_reducible refine (HHV.out).mono ?_); rintro e w9 ⟨rfl, rfl⟩)
    go_ret
    exact ⟨rfl, bt hx hxA⟩
  · have i2 : (100 : Int) < (m : Int) := by omega
    go_wp2_with (go_at_call 8; (with_reducible refine (HHV.out).mono ?_); rintro e w9 ⟨rfl, rfl⟩)
    go_ret
    exact ⟨rfl, bt hx hxA⟩
set_option maxRecDepth 100000 in
set_option maxHeartbeats 8000000 in
theorem ex_geo (z d s l a e addr st sm root : Int) (ls : Bool) (A B : Option Addr) (n k m q : Nat) (b y : List UInt8) (w : World) (hn : b.length = n) (hm : y.length = m) (hk : n ≤ k) (hkm : k ≤ maxLen) (hA : Sl w w.heap.size A b) (hB : Sl w w.heap.size B y) (hn3 : n ≤ 300) (hm1 : m ≤ 100) (hg : Ok z d s l a) :
    Calls Try.prog 3 #[.agg #[.int .i64 z, .int .i64 d, .int .i64 s, .int .i64 l, .int .i64 a], .agg #[.int .i64 e, .slice A n k], .int .i64 addr, .agg #[.int .i64 st, .int .i64 sm, .bool ls], .int .i64 root, .slice B m q] w fun e w' => e = .returned (.bool true) ∧ Below w.heap.size w w' := by
  have i1 : (m : Int) ≤ 100 := by omega
  have s1 : (w.alloc (.cells #[.int .i64 z, .int .i64 d, .int .i64 s, .int .i64 l, .int .i64 a] 23)).heap.size = w.heap.size + 1 := by simp
  have s2 : ((w.alloc (.cells #[.int .i64 z, .int .i64 d, .int .i64 s, .int .i64 l, .int .i64 a] 23)).alloc (.cells #[.int .i64 e, .slice A n k] 27)).heap.size = w.heap.size + 2 := by simp
  have hx2 := bl (w.alloc (.cells #[.int .i64 z, .int .i64 d, .int .i64 s, .int .i64 l, .int .i64 a] 23)) (.cells #[.int .i64 e, .slice A n k] 27)
  have hx3 := bl ((w.alloc (.cells #[.int .i64 z, .int .i64 d, .int .i64 s, .int .i64 l, .int .i64 a] 23)).alloc (.cells #[.int .i64 e, .slice A n k] 27)) (.cells #[.int .i64 st, .int .i64 sm, .bool ls] 29)
  have GG := ((g5_new w z d s l a).keep hx2 (by omega)).keep hx3 (by omega)
  have XX := duo_new (w.alloc (.cells #[.int .i64 z, .int .i64 d, .int .i64 s, .int .i64 l, .int .i64 a] 23)) (.int .i64 e) (.slice A n k) 27
  rw [s1] at XX
  replace XX := XX.keep hx3 (by omega)
  have EE := three_new ((w.alloc (.cells #[.int .i64 z, .int .i64 d, .int .i64 s, .int .i64 l, .int .i64 a] 23)).alloc (.cells #[.int .i64 e, .slice A n k] 27)) (.int .i64 st) (.int .i64 sm) (.bool ls) 29
  rw [s2] at EE
  have hx := kal (kal (bl w (.cells #[.int .i64 z, .int .i64 d, .int .i64 s, .int .i64 l, .int .i64 a] 23)) (.cells #[.int .i64 e, .slice A n k] 27)) (.cells #[.int .i64 st, .int .i64 sm, .bool ls] 29)
  have l3 : w.heap.size + 2 < (((w.alloc (.cells #[.int .i64 z, .int .i64 d, .int .i64 s, .int .i64 l, .int .i64 a] 23)).alloc (.cells #[.int .i64 e, .slice A n k] 27)).alloc (.cells #[.int .i64 st, .int .i64 sm, .bool ls] 29)).heap.size := by simp
  have HBB := Lib.hid (hA.next hx)
  have HYY := Lib.hid (hB.next hx)
  have HBL := Lib.hid hn
  have HYL := Lib.hid hm
  clear s1 s2 hx2 hx3 hA hB hn hm
  go_enter Try.func3, Try.ntmps3
  go_upto_region 1 with fail
  generalize (((w.alloc (.cells #[.int .i64 z, .int .i64 d, .int .i64 s, .int .i64 l, .int .i64 a] 23)).alloc (.cells #[.int .i64 e, .slice A n k] 27)).alloc (.cells #[.int .i64 st, .int .i64 sm, .bool ls] 29)) = w0 at *
  have HHV := Lib.hid (heavy_one false e A n k b w0 HBL.out hk hkm HBB.out (by simp; omega))
  have HKK := Lib.hid (show n ≤ k ∧ k ≤ maxLen from ⟨hk, hkm⟩)
  have HGO := Lib.hid hg
  have hxA := bl w0 (.cells #[.int .i64 e, .slice A n k] 27)
  clear hk hkm hg hn3 hm1
  obtain ⟨x0, x1, -, -⟩ := id XX
  go_upto_region 3 with (go_at_call 8; (with_reducible refine (HHV.out).mono ?_); rintro e w9 ⟨rfl, rfl⟩)
  clear HHV
  clear x0 x1
  replace GG := GG.keep hxA (by omega)
  replace XX := XX.keep hxA (by omega)
  replace EE := EE.keep hxA (by omega)
  replace HBB := Lib.hid (HBB.out.next hxA)
  replace HYY := Lib.hid (HYY.out.next hxA)
  replace l3 := Nat.lt_of_lt_of_le l3 hxA.size
  replace hx := bt hx hxA
  clear hxA
  generalize w0.alloc (.cells #[.int .i64 e, .slice A n k] 27) = w1 at *
  obtain ⟨cb, hcb⟩ : ∃ c : Bool, c = true ↔ BlkB e b addr st sm := by
    by_cases h : BlkB e b addr st sm
    · exact ⟨true, iff_of_true rfl h⟩
    · exact ⟨false, iff_of_false Bool.false_ne_true h⟩
  obtain ⟨P, hP⟩ : ∃ P, P = part cb (opened b).load := ⟨_, rfl⟩
  have hPl : P.length ≤ 1048576 := by
    rw [hP]
    cases cb
    · exact Nat.zero_le _
    · have h8 := (hcb.1 rfl).2.1
      rw [part_yes, h8]
      decide
  have HPL := Lib.hid hPl
  have HBK := Lib.hid (show ∀ W, Below w1.heap.size w1 W → Calls Try.prog 9 #[.agg #[.int .i64 e, .slice A n k], .int .i64 addr, .agg #[.int .i64 st, .int .i64 sm, .bool ls]] W fun e w' => BytB W.heap.size P cb e w' ∧ Below W.heap.size W w' from fun W hW => by rw [hP]; exact block_c cb e addr st sm ls A n k b W HBL.out HKK.out.1 HKK.out.2 (HBB.out.next hW) hcb)
  have HRB := Lib.hid (show ∀ W, Below w1.heap.size w1 W → Calls Try.prog 10 #[.agg #[.int .i64 e, .slice A n k], .int .i64 addr, .agg #[.int .i64 st, .int .i64 sm, .bool ls]] W fun e w' => BytB W.heap.size P cb e w' ∧ Below W.heap.size W w' from fun W hW => by rw [hP]; exact rblock_c cb e addr st sm ls A n k b W HBL.out HKK.out.1 (HBB.out.next hW) hcb)
  have qb : (cb != cb) = false := bne_self_eq_false _
  clear hP hPl hcb
  obtain ⟨x0, x1, -, -⟩ := id XX
  obtain ⟨t0, t1, t2, -, -, -⟩ := id EE
  go_upto_region 4 with (go_at_call 9; (with_reducible refine (HBK.out _ (Below.refl _ _)).mono ?_); rintro e w2 ⟨⟨Y, yc, rfl, ho2⟩, hb2⟩)
  clear x0 x1 t0 t1 t2
  replace GG := GG.keep hb2 (by omega)
  replace XX := XX.keep hb2 (by omega)
  replace EE := EE.keep hb2 (by omega)
  replace HBB := Lib.hid (HBB.out.next hb2)
  replace HYY := Lib.hid (HYY.out.next hb2)
  replace l3 := Nat.lt_of_lt_of_le l3 hb2.size
  replace hx := bt hx hb2
  have HP1 := Lib.hid (own_at ho2).2.2.2
  clear ho2 HBK
  obtain ⟨x0, x1, -, -⟩ := id XX
  obtain ⟨t0, t1, t2, -, -, -⟩ := id EE
  go_upto_region 5 with (go_at_call 10; (with_reducible refine (HRB.out _ hb2).mono ?_); rintro e w3 ⟨⟨Z, zc, rfl, ho3⟩, hb3⟩)
  clear x0 x1 t0 t1 t2
  replace GG := GG.keep hb3 (by omega)
  replace XX := XX.keep hb3 (by omega)
  replace EE := EE.keep hb3 (by omega)
  replace HBB := Lib.hid (HBB.out.next hb3)
  replace HYY := Lib.hid (HYY.out.next hb3)
  replace HP1 := Lib.hid (HP1.out.next hb3)
  replace l3 := Nat.lt_of_lt_of_le l3 hb3.size
  replace hx := bt hx hb3
  have HP2 := Lib.hid (own_at ho3).2.2.2
  clear ho3 HRB hb2
  obtain ⟨ct, hct⟩ : ∃ c : Bool, c = true ↔ Ok z d s l a ∧ TabB d e b addr root := by
    by_cases h : Ok z d s l a ∧ TabB d e b addr root
    · exact ⟨true, iff_of_true rfl h⟩
    · exact ⟨false, iff_of_false Bool.false_ne_true h⟩
  obtain ⟨es, hes⟩ : ∃ es, es = part ct (entsN (opened b).load (d.toNat + 1)) := ⟨_, rfl⟩
  have hel : es.length ≤ 1048576 := by
    rw [hes]
    cases ct
    · exact Nat.zero_le _
    · have h8 := (hct.1 rfl).1.2.1
      rw [part_yes, tbl.entsN_length]
      omega
  have HEL := Lib.hid hel
  have HCT := Lib.hid hct
  have HES := Lib.hid hes
  have qt : (ct != ct) = false := bne_self_eq_false _
  have HTB := Lib.hid (show Calls Try.prog 11 #[.agg #[.int .i64 z, .int .i64 d, .int .i64 s, .int .i64 l, .int .i64 a], .agg #[.int .i64 e, .slice A n k], .int .i64 addr, .int .i64 root] w3 fun e w' => RdT w3.heap.size es ct e w' ∧ Below w3.heap.size w3 w' from by rw [hes]; exact table_c ct z d s l a e addr root A n k b w3 HBL.out HKK.out.1 HKK.out.2 HBB.out hct)
  clear hes hel hct hb3
  obtain ⟨g0, g1, g2, g3, g4⟩ := id GG
  obtain ⟨x0, x1, -, -⟩ := id XX
  go_upto_region 6 with (go_at_call 11; (with_reducible refine HTB.out.mono ?_); rintro e w4 ⟨⟨u, heu, hue0, huo⟩, hb4⟩; rw [tbl.TV.v] at heu; subst heu; have HUE := Lib.hid hue0; clear hue0)
  obtain ⟨K, hK⟩ : ∃ K, K = u.es.length := ⟨_, rfl⟩
  rw [← hK]
  have hxU := bl w4 (.cells #[.slice u.A K u.c] 36)
  have UU := c1_new w4 (.slice u.A K u.c) 36
  have lU : w4.heap.size < (w4.alloc (.cells #[.slice u.A K u.c] 36)).heap.size := by simp
  have b4 := bt hb4 hxU
  have HUI := Lib.hid ((tbl.TV.Own.inn huo).next hxU)
  have HKE := Lib.hid hK
  clear g0 g1 g2 g3 g4 x0 x1
  replace GG := GG.keep b4 (by omega)
  replace XX := XX.keep b4 (by omega)
  replace EE := EE.keep b4 (by omega)
  replace HBB := Lib.hid (HBB.out.next b4)
  replace HYY := Lib.hid (HYY.out.next b4)
  replace HP1 := Lib.hid (HP1.out.next b4)
  replace HP2 := Lib.hid (HP2.out.next b4)
  replace l3 := Nat.lt_of_lt_of_le l3 b4.size
  replace hx := bt hx b4
  clear hb4 hxU b4 huo hK HTB
  generalize hgU : w4.heap.size = gU at *
  clear hgU
  generalize w4.alloc (.cells #[.slice u.A K u.c] 36) = w5 at *
  obtain ⟨ms, mm, er, hmk, e1, e2, e3⟩ := make_ex root B m q y w5 HYL.out HYY.out
  have HMK := Lib.hid hmk
  have HE1 := Lib.hid e1
  have HE2 := Lib.hid e2
  have HE3 := Lib.hid e3
  clear hmk e1 e2 e3
  go_upto_region 7 with (go_at_call 12; (with_reducible refine (HMK.out _ (Below.refl _ _)).mono ?_); rintro e w6 ⟨rfl, hb6⟩)
  have hxM := bl w6 (.cells #[.int .i64 ms, .int .i64 mm, .bool false] 29)
  have MM := three_new w6 (.int .i64 ms) (.int .i64 mm) (.bool false) 29
  have lM : w6.heap.size < (w6.alloc (.cells #[.int .i64 ms, .int .i64 mm, .bool false] 29)).heap.size := by simp
  have b6 := bt hb6 hxM
  replace GG := GG.keep b6 (by omega)
  replace XX := XX.keep b6 (by omega)
  replace EE := EE.keep b6 (by omega)
  replace UU := UU.keep b6 lU
  replace lU := Nat.lt_of_lt_of_le lU b6.size
  replace HBB := Lib.hid (HBB.out.next b6)
  replace HYY := Lib.hid (HYY.out.next b6)
  replace HP1 := Lib.hid (HP1.out.next b6)
  replace HP2 := Lib.hid (HP2.out.next b6)
  replace HUI := Lib.hid (HUI.out.next b6)
  replace l3 := Nat.lt_of_lt_of_le l3 b6.size
  replace hx := bt hx b6
  clear hb6 hxM b6 HMK
  generalize hgM : w6.heap.size = gM at *
  clear hgM
  generalize w6.alloc (.cells #[.int .i64 ms, .int .i64 mm, .bool false] 29) = w7 at *
  have HKB := Lib.hid (keep_c true Y Z P.length P.length yc zc P P w7 rfl rfl HPL.out HP1.out HP2.out (iff_of_true rfl rfl))
  go_upto_region 9 with (go_at_call 13; (with_reducible refine (HKB.out).mono ?_); rintro e w8 ⟨rfl, hb8⟩)
  replace GG := GG.keep hb8 (by omega)
  replace XX := XX.keep hb8 (by omega)
  replace EE := EE.keep hb8 (by omega)
  replace UU := UU.keep hb8 lU
  replace MM := MM.keep hb8 lM
  replace lU := Nat.lt_of_lt_of_le lU hb8.size
  replace lM := Nat.lt_of_lt_of_le lM hb8.size
  replace HBB := Lib.hid (HBB.out.next hb8)
  replace HYY := Lib.hid (HYY.out.next hb8)
  replace HP1 := Lib.hid (HP1.out.next hb8)
  replace HP2 := Lib.hid (HP2.out.next hb8)
  replace HUI := Lib.hid (HUI.out.next hb8)
  replace l3 := Nat.lt_of_lt_of_le l3 hb8.size
  replace hx := bt hx hb8
  clear hb8 HKB
  go_upto_region 10 with fail
  have hxV := bl w8 (.cells #[.slice none 0 0] 36)
  have VV := c1_new w8 (.slice none 0 0) 36
  have lV : w8.heap.size < (w8.alloc (.cells #[.slice none 0 0] 36)).heap.size := by simp
  have hUV := lU
  have hMV := lM
  have hGV := l3
  have HYV := Lib.hid (HYY.out.below hxV)
  have HUV := Lib.hid (HUI.out.below hxV)
  replace GG := GG.keep hxV (by omega)
  replace XX := XX.keep hxV (by omega)
  replace EE := EE.keep hxV (by omega)
  replace UU := UU.keep hxV lU
  replace MM := MM.keep hxV lM
  replace lU := Nat.lt_of_lt_of_le lU hxV.size
  replace lM := Nat.lt_of_lt_of_le lM hxV.size
  replace HBB := Lib.hid (HBB.out.next hxV)
  replace HYY := Lib.hid (HYY.out.next hxV)
  replace HP1 := Lib.hid (HP1.out.next hxV)
  replace HP2 := Lib.hid (HP2.out.next hxV)
  replace HUI := Lib.hid (HUI.out.next hxV)
  replace l3 := Nat.lt_of_lt_of_le l3 hxV.size
  replace hx := bt hx hxV
  clear hxV HP1 HP2
  generalize hgV : w8.heap.size = gV at *
  clear hgV
  generalize w8.alloc (.cells #[.slice none 0 0] 36) = w9 at *
  have HRG := Lib.hid (gmt.rgeo_at true z d s l a w9 (iff_of_true rfl HGO.out))
  obtain ⟨g0, g1, g2, g3, g4⟩ := id GG
  go_upto_region 11 with (go_at_call 14; (with_reducible refine (HRG.out).mono ?_); rintro e w10 ⟨rfl, hb10⟩)
  clear g0 g1 g2 g3 g4
  replace GG := GG.keep hb10 (by omega)
  replace XX := XX.keep hb10 (by omega)
  replace EE := EE.keep hb10 (by omega)
  replace UU := UU.keep hb10 lU
  replace MM := MM.keep hb10 lM
  replace VV := VV.keep hb10 lV
  replace HYV := Lib.hid (HYV.out.below (hb10.mono (Nat.le_of_lt lV)))
  replace HUV := Lib.hid (HUV.out.below (hb10.mono (Nat.le_of_lt lV)))
  replace lU := Nat.lt_of_lt_of_le lU hb10.size
  replace lM := Nat.lt_of_lt_of_le lM hb10.size
  replace lV := Nat.lt_of_lt_of_le lV hb10.size
  replace HBB := Lib.hid (HBB.out.next hb10)
  replace HYY := Lib.hid (HYY.out.next hb10)
  replace HUI := Lib.hid (HUI.out.next hb10)
  replace l3 := Nat.lt_of_lt_of_le l3 hb10.size
  replace hx := bt hx hb10
  clear hb10 HRG
  have HRT := Lib.hid (show Calls Try.prog 15 #[.agg #[.int .i64 z, .int .i64 d, .int .i64 s, .int .i64 l, .int .i64 a], .agg #[.int .i64 e, .slice A n k], .int .i64 addr, .int .i64 root] w10 fun e w' => RdT w10.heap.size es ct e w' ∧ Below w10.heap.size w10 w' from by rw [HES.out]; exact rtable_c ct z d s l a e addr root A n k b w10 HGO.out HBL.out HKK.out.1 HBB.out (HCT.out.trans ⟨fun h => h.2, fun h => ⟨HGO.out, h⟩⟩))
  obtain ⟨g0, g1, g2, g3, g4⟩ := id GG
  obtain ⟨x0, x1, -, -⟩ := id XX
  have v0 := VV.c0
  have vf := VV.f0
  have HV9 := Lib.hid (show ∀ W, Below w10.heap.size w10 W → C1 W gV (.slice none 0 0) from fun W hW => VV.keep hW lV)
  go_upto_region 12 with (go_at_call 15; (with_reducible refine HRT.out.mono ?_); rintro e w11 ⟨⟨v, hev, hve0, hvo⟩, hb11⟩; rw [tbl.TV.v] at hev; subst hev; have HVE := Lib.hid hve0; clear hve0 v0 vf; obtain ⟨v0, vf⟩ := HV9.out _ hb11)
  clear g0 g1 g2 g3 g4 x0 x1 v0 vf
  have lV0 := lV
  clear HV9
  replace GG := GG.keep hb11 (by omega)
  replace XX := XX.keep hb11 (by omega)
  replace EE := EE.keep hb11 (by omega)
  replace UU := UU.keep hb11 lU
  replace MM := MM.keep hb11 lM
  replace VV := VV.keep hb11 lV
  replace HYV := Lib.hid (HYV.out.below (hb11.mono (Nat.le_of_lt lV)))
  replace HUV := Lib.hid (HUV.out.below (hb11.mono (Nat.le_of_lt lV)))
  replace lU := Nat.lt_of_lt_of_le lU hb11.size
  replace lM := Nat.lt_of_lt_of_le lM hb11.size
  replace lV := Nat.lt_of_lt_of_le lV hb11.size
  replace HBB := Lib.hid (HBB.out.next hb11)
  replace HYY := Lib.hid (HYY.out.next hb11)
  replace HUI := Lib.hid (HUI.out.next hb11)
  replace l3 := Nat.lt_of_lt_of_le l3 hb11.size
  replace hx := bt hx hb11
  have hbs : Below gV w11 (w11.setCell ⟨gV, 0, none⟩ (.slice v.A v.es.length v.c)) := (Below.refl gV w11).setCell (p := ⟨gV, 0, none⟩) (Nat.le_refl gV) _
  have lsz : (w11.setCell ⟨gV, 0, none⟩ (.slice v.A v.es.length v.c)).heap.size = w11.heap.size := by simp
  have hgs : gV ≤ (w11.setCell ⟨gV, 0, none⟩ (.slice v.A v.es.length v.c)).heap.size := by rw [lsz]; exact Nat.le_of_lt lV
  replace VV := VV.set (.slice v.A v.es.length v.c)
  replace UU := UU.keep hbs hUV
  replace MM := MM.keep hbs hMV
  replace HYY := Lib.hid ((HYV.out.below hbs).more hgs)
  replace HUI := Lib.hid ((HUV.out.below hbs).more hgs)
  have HVI := Lib.hid (tbl.TV.Own.inn (show v.Own (w11.setCell ⟨gV, 0, none⟩ (.slice v.A v.es.length v.c)) w10.heap.size from tbl.OwnE.cell_set hvo lV0 (.slice v.A v.es.length v.c)))
  replace hx := hx.trans (hbs.mono (by omega))
  replace lM : gM < (w11.setCell ⟨gV, 0, none⟩ (.slice v.A v.es.length v.c)).heap.size := by rw [lsz]; exact lM
  clear hbs hvo lV0 HUV HYV XX EE GG l3 HBB HRT hb11 lU lV lsz hgs
  generalize w11.setCell ⟨gV, 0, none⟩ (.slice v.A v.es.length v.c) = w12 at *
  have HKT := Lib.hid (show Calls Try.prog 16 #[.agg #[.slice u.A K u.c], .agg #[.slice v.A v.es.length v.c]] w12 fun e w' => e = .returned (.bool true) ∧ Below w12.heap.size w12 w' from by
    have h9 := tab_same u v w12 HUI.out HVI.out (by rw [HUE.out]; exact HEL.out)
    rw [decide_eq_true (HUE.out.trans HVE.out.symm), tbl.TV.v, tbl.TV.v, ← HKE.out] at h9
    exact h9)
  have u0 := UU.c0
  have v0 := VV.c0
  have vf := VV.f0
  go_upto_region 14 with (go_at_call 16; (with_reducible refine (HKT.out).mono ?_); rintro e w13 ⟨rfl, hb13⟩)
  clear u0 v0 vf
  replace MM := MM.keep hb13 lM
  replace lM := Nat.lt_of_lt_of_le lM hb13.size
  replace HYY := Lib.hid (HYY.out.next hb13)
  replace hx := bt hx hb13
  clear hb13 HKT UU VV HUI HUE HKE HEL HES HCT HPL qb qt
  obtain ⟨m0, m1, m2, -, -, -⟩ := id MM
  by_cases hr : 0 ≤ root ∧ root ≤ 4294967295
  case neg =>
    obtain ⟨rfl, rfl, rfl⟩ := HE1.out hr
    have q : root < 0 ∨ (0 ≤ root ∧ 4294967295 < root) := by omega
    clear hr HE1 HE2 HE3
    rcases q with q | ⟨q, q2⟩
    all_goals
      go_wp2_with (go_at_call 17; (with_reducible refine ((wk_ent _)).mono ?_); rintro e w14 ⟨rfl, hb14⟩)
      go_ret
      exact ⟨rfl, bt hx hb14⟩
  obtain ⟨r1, r2⟩ := id hr
  by_cases h8 : m = 8
  case neg =>
    obtain ⟨rfl, rfl, rfl⟩ := HE2.out hr h8
    have i2 : ((m : Int) != 8) = true := bne_iff_ne.2 (by omega)
    clear hr HE1 HE2 HE3 h8
    all_goals
      go_wp2_with (go_at_call 17; (with_reducible refine ((wk_ent _)).mono ?_); rintro e w14 ⟨rfl, hb14⟩)
      go_ret
      exact ⟨rfl, bt hx hb14⟩
  obtain ⟨rfl, hmm, rfl⟩ := HE3.out hr h8
  subst h8
  have HMM := Lib.hid hmm
  have q1 : (root == root) = true := beq_self_eq_true _
  have q2 : (mm == mm) = true := beq_self_eq_true _
  clear hmm HE1 HE2 HE3
  have HEN := Lib.hid (show ∀ W, Below w13.heap.size w13 W → Calls Try.prog 18 #[.int .i64 root, .slice B (8 : Nat) q] W fun e w' => e = .returned (.agg #[.int .i64 root, .int .i64 mm, .bool false]) ∧ Below W.heap.size W w' from fun W hW => by
    rw [HMM.out]
    exact rentry_any root B 8 q y W HYL.out (by decide) (HYY.out.next hW))
  go_upto_region 18 with fail
  have HF := Lib.hid (show ∀ W, Below w13.heap.size w13 W → W.cell? ⟨gM, 0, none⟩ = some (.int .i64 root) ∧ W.cell? ⟨gM, 1, none⟩ = some (.int .i64 mm) ∧ W.cell? ⟨gM, 2, none⟩ = some (.bool false) ∧ Below w13.heap.size w13 W from fun W h => ⟨kst h lM m0, kst h lM m1, kst h lM m2, h⟩)
  go_region_held3 (fun W => W.cell? ⟨gM, 0, none⟩ = some (.int .i64 root) ∧ W.cell? ⟨gM, 1, none⟩ = some (.int .i64 mm) ∧ W.cell? ⟨gM, 2, none⟩ = some (.bool false) ∧ Below w13.heap.size w13 W)
    ((refine HF.out _ ?_; first
      | with_reducible exact hb9
      | with_reducible exact hb1
      | with_reducible exact below_dr (Below.refl _ _)
      | fail))
    (first
      | (go_at_call 18; (with_reducible refine (HEN.out _ (below_dr (Below.refl _ _))).mono ?_); rintro e w15 ⟨rfl, hbq⟩; have hb1 := bt (below_dr (Below.refl w13.heap.size w13)) hbq; clear hbq)
      | (go_at_call 17; (with_reducible refine (wk_ent _).mono ?_); rintro e w16 ⟨rfl, hbq⟩; have hb9 := bt hb1 hbq; clear hbq)
      | fail)
  go_wp2
  go_ret
  exact ⟨rfl, bt hx hb9⟩
set_option maxRecDepth 100000 in
set_option maxHeartbeats 8000000 in
theorem ex_nogeo (z d s l a e addr st sm root : Int) (ls : Bool) (A B : Option Addr) (n k m q : Nat) (b y : List UInt8) (w : World) (hn : b.length = n) (hm : y.length = m) (hk : n ≤ k) (hkm : k ≤ maxLen) (hA : Sl w w.heap.size A b) (hB : Sl w w.heap.size B y) (hn3 : n ≤ 300) (hm1 : m ≤ 100) (hg : ¬ Ok z d s l a) :
    Calls Try.prog 3 #[.agg #[.int .i64 z, .int .i64 d, .int .i64 s, .int .i64 l, .int .i64 a], .agg #[.int .i64 e, .slice A n k], .int .i64 addr, .agg #[.int .i64 st, .int .i64 sm, .bool ls], .int .i64 root, .slice B m q] w fun e w' => e = .returned (.bool true) ∧ Below w.heap.size w w' := by
  have i1 : (m : Int) ≤ 100 := by omega
  have s1 : (w.alloc (.cells #[.int .i64 z, .int .i64 d, .int .i64 s, .int .i64 l, .int .i64 a] 23)).heap.size = w.heap.size + 1 := by simp
  have s2 : ((w.alloc (.cells #[.int .i64 z, .int .i64 d, .int .i64 s, .int .i64 l, .int .i64 a] 23)).alloc (.cells #[.int .i64 e, .slice A n k] 27)).heap.size = w.heap.size + 2 := by simp
  have hx2 := bl (w.alloc (.cells #[.int .i64 z, .int .i64 d, .int .i64 s, .int .i64 l, .int .i64 a] 23)) (.cells #[.int .i64 e, .slice A n k] 27)
  have hx3 := bl ((w.alloc (.cells #[.int .i64 z, .int .i64 d, .int .i64 s, .int .i64 l, .int .i64 a] 23)).alloc (.cells #[.int .i64 e, .slice A n k] 27)) (.cells #[.int .i64 st, .int .i64 sm, .bool ls] 29)
  have GG := ((g5_new w z d s l a).keep hx2 (by omega)).keep hx3 (by omega)
  have XX := duo_new (w.alloc (.cells #[.int .i64 z, .int .i64 d, .int .i64 s, .int .i64 l, .int .i64 a] 23)) (.int .i64 e) (.slice A n k) 27
  rw [s1] at XX
  replace XX := XX.keep hx3 (by omega)
  have EE := three_new ((w.alloc (.cells #[.int .i64 z, .int .i64 d, .int .i64 s, .int .i64 l, .int .i64 a] 23)).alloc (.cells #[.int .i64 e, .slice A n k] 27)) (.int .i64 st) (.int .i64 sm) (.bool ls) 29
  rw [s2] at EE
  have hx := kal (kal (bl w (.cells #[.int .i64 z, .int .i64 d, .int .i64 s, .int .i64 l, .int .i64 a] 23)) (.cells #[.int .i64 e, .slice A n k] 27)) (.cells #[.int .i64 st, .int .i64 sm, .bool ls] 29)
  have l3 : w.heap.size + 2 < (((w.alloc (.cells #[.int .i64 z, .int .i64 d, .int .i64 s, .int .i64 l, .int .i64 a] 23)).alloc (.cells #[.int .i64 e, .slice A n k] 27)).alloc (.cells #[.int .i64 st, .int .i64 sm, .bool ls] 29)).heap.size := by simp
  have HBB := Lib.hid (hA.next hx)
  have HYY := Lib.hid (hB.next hx)
  have HBL := Lib.hid hn
  have HYL := Lib.hid hm
  clear s1 s2 hx2 hx3 hA hB hn hm
  go_enter Try.func3, Try.ntmps3
  go_upto_region 1 with fail
  generalize (((w.alloc (.cells #[.int .i64 z, .int .i64 d, .int .i64 s, .int .i64 l, .int .i64 a] 23)).alloc (.cells #[.int .i64 e, .slice A n k] 27)).alloc (.cells #[.int .i64 st, .int .i64 sm, .bool ls] 29)) = w0 at *
  have HHV := Lib.hid (heavy_one false e A n k b w0 HBL.out hk hkm HBB.out (by simp; omega))
  have HKK := Lib.hid (show n ≤ k ∧ k ≤ maxLen from ⟨hk, hkm⟩)
  have HGO := Lib.hid hg
  have hxA := bl w0 (.cells #[.int .i64 e, .slice A n k] 27)
  clear hk hkm hg hn3 hm1
  obtain ⟨x0, x1, -, -⟩ := id XX
  go_upto_region 3 with (go_at_call 8; (with_reducible refine (HHV.out).mono ?_); rintro e w9 ⟨rfl, rfl⟩)
  clear HHV
  clear x0 x1
  replace GG := GG.keep hxA (by omega)
  replace XX := XX.keep hxA (by omega)
  replace EE := EE.keep hxA (by omega)
  replace HBB := Lib.hid (HBB.out.next hxA)
  replace HYY := Lib.hid (HYY.out.next hxA)
  replace l3 := Nat.lt_of_lt_of_le l3 hxA.size
  replace hx := bt hx hxA
  clear hxA
  generalize w0.alloc (.cells #[.int .i64 e, .slice A n k] 27) = w1 at *
  obtain ⟨cb, hcb⟩ : ∃ c : Bool, c = true ↔ BlkB e b addr st sm := by
    by_cases h : BlkB e b addr st sm
    · exact ⟨true, iff_of_true rfl h⟩
    · exact ⟨false, iff_of_false Bool.false_ne_true h⟩
  obtain ⟨P, hP⟩ : ∃ P, P = part cb (opened b).load := ⟨_, rfl⟩
  have hPl : P.length ≤ 1048576 := by
    rw [hP]
    cases cb
    · exact Nat.zero_le _
    · have h8 := (hcb.1 rfl).2.1
      rw [part_yes, h8]
      decide
  have HPL := Lib.hid hPl
  have HBK := Lib.hid (show ∀ W, Below w1.heap.size w1 W → Calls Try.prog 9 #[.agg #[.int .i64 e, .slice A n k], .int .i64 addr, .agg #[.int .i64 st, .int .i64 sm, .bool ls]] W fun e w' => BytB W.heap.size P cb e w' ∧ Below W.heap.size W w' from fun W hW => by rw [hP]; exact block_c cb e addr st sm ls A n k b W HBL.out HKK.out.1 HKK.out.2 (HBB.out.next hW) hcb)
  have HRB := Lib.hid (show ∀ W, Below w1.heap.size w1 W → Calls Try.prog 10 #[.agg #[.int .i64 e, .slice A n k], .int .i64 addr, .agg #[.int .i64 st, .int .i64 sm, .bool ls]] W fun e w' => BytB W.heap.size P cb e w' ∧ Below W.heap.size W w' from fun W hW => by rw [hP]; exact rblock_c cb e addr st sm ls A n k b W HBL.out HKK.out.1 (HBB.out.next hW) hcb)
  have qb : (cb != cb) = false := bne_self_eq_false _
  clear hP hPl hcb
  obtain ⟨x0, x1, -, -⟩ := id XX
  obtain ⟨t0, t1, t2, -, -, -⟩ := id EE
  go_upto_region 4 with (go_at_call 9; (with_reducible refine (HBK.out _ (Below.refl _ _)).mono ?_); rintro e w2 ⟨⟨Y, yc, rfl, ho2⟩, hb2⟩)
  clear x0 x1 t0 t1 t2
  replace GG := GG.keep hb2 (by omega)
  replace XX := XX.keep hb2 (by omega)
  replace EE := EE.keep hb2 (by omega)
  replace HBB := Lib.hid (HBB.out.next hb2)
  replace HYY := Lib.hid (HYY.out.next hb2)
  replace l3 := Nat.lt_of_lt_of_le l3 hb2.size
  replace hx := bt hx hb2
  have HP1 := Lib.hid (own_at ho2).2.2.2
  clear ho2 HBK
  obtain ⟨x0, x1, -, -⟩ := id XX
  obtain ⟨t0, t1, t2, -, -, -⟩ := id EE
  go_upto_region 5 with (go_at_call 10; (with_reducible refine (HRB.out _ hb2).mono ?_); rintro e w3 ⟨⟨Z, zc, rfl, ho3⟩, hb3⟩)
  clear x0 x1 t0 t1 t2
  replace GG := GG.keep hb3 (by omega)
  replace XX := XX.keep hb3 (by omega)
  replace EE := EE.keep hb3 (by omega)
  replace HBB := Lib.hid (HBB.out.next hb3)
  replace HYY := Lib.hid (HYY.out.next hb3)
  replace HP1 := Lib.hid (HP1.out.next hb3)
  replace l3 := Nat.lt_of_lt_of_le l3 hb3.size
  replace hx := bt hx hb3
  have HP2 := Lib.hid (own_at ho3).2.2.2
  clear ho3 HRB hb2
  obtain ⟨ct, hct⟩ : ∃ c : Bool, c = true ↔ Ok z d s l a ∧ TabB d e b addr root := by
    by_cases h : Ok z d s l a ∧ TabB d e b addr root
    · exact ⟨true, iff_of_true rfl h⟩
    · exact ⟨false, iff_of_false Bool.false_ne_true h⟩
  obtain ⟨es, hes⟩ : ∃ es, es = part ct (entsN (opened b).load (d.toNat + 1)) := ⟨_, rfl⟩
  have hel : es.length ≤ 1048576 := by
    rw [hes]
    cases ct
    · exact Nat.zero_le _
    · have h8 := (hct.1 rfl).1.2.1
      rw [part_yes, tbl.entsN_length]
      omega
  have HEL := Lib.hid hel
  have HCT := Lib.hid hct
  have HES := Lib.hid hes
  have qt : (ct != ct) = false := bne_self_eq_false _
  have HTB := Lib.hid (show Calls Try.prog 11 #[.agg #[.int .i64 z, .int .i64 d, .int .i64 s, .int .i64 l, .int .i64 a], .agg #[.int .i64 e, .slice A n k], .int .i64 addr, .int .i64 root] w3 fun e w' => RdT w3.heap.size es ct e w' ∧ Below w3.heap.size w3 w' from by rw [hes]; exact table_c ct z d s l a e addr root A n k b w3 HBL.out HKK.out.1 HKK.out.2 HBB.out hct)
  clear hes hel hct hb3
  obtain ⟨g0, g1, g2, g3, g4⟩ := id GG
  obtain ⟨x0, x1, -, -⟩ := id XX
  go_upto_region 6 with (go_at_call 11; (with_reducible refine HTB.out.mono ?_); rintro e w4 ⟨⟨u, heu, hue0, huo⟩, hb4⟩; rw [tbl.TV.v] at heu; subst heu; have HUE := Lib.hid hue0; clear hue0)
  obtain ⟨K, hK⟩ : ∃ K, K = u.es.length := ⟨_, rfl⟩
  rw [← hK]
  have hxU := bl w4 (.cells #[.slice u.A K u.c] 36)
  have UU := c1_new w4 (.slice u.A K u.c) 36
  have lU : w4.heap.size < (w4.alloc (.cells #[.slice u.A K u.c] 36)).heap.size := by simp
  have b4 := bt hb4 hxU
  have HUI := Lib.hid ((tbl.TV.Own.inn huo).next hxU)
  have HKE := Lib.hid hK
  clear g0 g1 g2 g3 g4 x0 x1
  replace GG := GG.keep b4 (by omega)
  replace XX := XX.keep b4 (by omega)
  replace EE := EE.keep b4 (by omega)
  replace HBB := Lib.hid (HBB.out.next b4)
  replace HYY := Lib.hid (HYY.out.next b4)
  replace HP1 := Lib.hid (HP1.out.next b4)
  replace HP2 := Lib.hid (HP2.out.next b4)
  replace l3 := Nat.lt_of_lt_of_le l3 b4.size
  replace hx := bt hx b4
  clear hb4 hxU b4 huo hK HTB
  generalize hgU : w4.heap.size = gU at *
  clear hgU
  generalize w4.alloc (.cells #[.slice u.A K u.c] 36) = w5 at *
  obtain ⟨ms, mm, er, hmk, e1, e2, e3⟩ := make_ex root B m q y w5 HYL.out HYY.out
  have HMK := Lib.hid hmk
  have HE1 := Lib.hid e1
  have HE2 := Lib.hid e2
  have HE3 := Lib.hid e3
  clear hmk e1 e2 e3
  go_upto_region 7 with (go_at_call 12; (with_reducible refine (HMK.out _ (Below.refl _ _)).mono ?_); rintro e w6 ⟨rfl, hb6⟩)
  have hxM := bl w6 (.cells #[.int .i64 ms, .int .i64 mm, .bool false] 29)
  have MM := three_new w6 (.int .i64 ms) (.int .i64 mm) (.bool false) 29
  have lM : w6.heap.size < (w6.alloc (.cells #[.int .i64 ms, .int .i64 mm, .bool false] 29)).heap.size := by simp
  have b6 := bt hb6 hxM
  replace GG := GG.keep b6 (by omega)
  replace XX := XX.keep b6 (by omega)
  replace EE := EE.keep b6 (by omega)
  replace UU := UU.keep b6 lU
  replace lU := Nat.lt_of_lt_of_le lU b6.size
  replace HBB := Lib.hid (HBB.out.next b6)
  replace HYY := Lib.hid (HYY.out.next b6)
  replace HP1 := Lib.hid (HP1.out.next b6)
  replace HP2 := Lib.hid (HP2.out.next b6)
  replace HUI := Lib.hid (HUI.out.next b6)
  replace l3 := Nat.lt_of_lt_of_le l3 b6.size
  replace hx := bt hx b6
  clear hb6 hxM b6 HMK
  generalize hgM : w6.heap.size = gM at *
  clear hgM
  generalize w6.alloc (.cells #[.int .i64 ms, .int .i64 mm, .bool false] 29) = w7 at *
  have HKB := Lib.hid (keep_c true Y Z P.length P.length yc zc P P w7 rfl rfl HPL.out HP1.out HP2.out (iff_of_true rfl rfl))
  go_upto_region 9 with (go_at_call 13; (with_reducible refine (HKB.out).mono ?_); rintro e w8 ⟨rfl, hb8⟩)
  replace GG := GG.keep hb8 (by omega)
  replace XX := XX.keep hb8 (by omega)
  replace EE := EE.keep hb8 (by omega)
  replace UU := UU.keep hb8 lU
  replace MM := MM.keep hb8 lM
  replace lU := Nat.lt_of_lt_of_le lU hb8.size
  replace lM := Nat.lt_of_lt_of_le lM hb8.size
  replace HBB := Lib.hid (HBB.out.next hb8)
  replace HYY := Lib.hid (HYY.out.next hb8)
  replace HP1 := Lib.hid (HP1.out.next hb8)
  replace HP2 := Lib.hid (HP2.out.next hb8)
  replace HUI := Lib.hid (HUI.out.next hb8)
  replace l3 := Nat.lt_of_lt_of_le l3 hb8.size
  replace hx := bt hx hb8
  clear hb8 HKB
  go_upto_region 10 with fail
  have hxV := bl w8 (.cells #[.slice none 0 0] 36)
  have VV := c1_new w8 (.slice none 0 0) 36
  have lV : w8.heap.size < (w8.alloc (.cells #[.slice none 0 0] 36)).heap.size := by simp
  have hUV := lU
  have hMV := lM
  have hGV := l3
  have HYV := Lib.hid (HYY.out.below hxV)
  have HUV := Lib.hid (HUI.out.below hxV)
  replace GG := GG.keep hxV (by omega)
  replace XX := XX.keep hxV (by omega)
  replace EE := EE.keep hxV (by omega)
  replace UU := UU.keep hxV lU
  replace MM := MM.keep hxV lM
  replace lU := Nat.lt_of_lt_of_le lU hxV.size
  replace lM := Nat.lt_of_lt_of_le lM hxV.size
  replace HBB := Lib.hid (HBB.out.next hxV)
  replace HYY := Lib.hid (HYY.out.next hxV)
  replace HP1 := Lib.hid (HP1.out.next hxV)
  replace HP2 := Lib.hid (HP2.out.next hxV)
  replace HUI := Lib.hid (HUI.out.next hxV)
  replace l3 := Nat.lt_of_lt_of_le l3 hxV.size
  replace hx := bt hx hxV
  clear hxV HP1 HP2
  generalize hgV : w8.heap.size = gV at *
  clear hgV
  generalize w8.alloc (.cells #[.slice none 0 0] 36) = w9 at *
  have HRG := Lib.hid (gmt.rgeo_at false z d s l a w9 (iff_of_false Bool.false_ne_true HGO.out))
  obtain ⟨g0, g1, g2, g3, g4⟩ := id GG
  obtain rfl : ct = false := by cases ct; rfl; exact absurd (HCT.out.1 rfl).1 HGO.out
  go_upto_region 12 with (go_at_call 14; (with_reducible refine (HRG.out).mono ?_); rintro e w12 ⟨rfl, hb10⟩)
  clear g0 g1 g2 g3 g4
  replace GG := GG.keep hb10 (by omega)
  replace XX := XX.keep hb10 (by omega)
  replace EE := EE.keep hb10 (by omega)
  replace UU := UU.keep hb10 lU
  replace MM := MM.keep hb10 lM
  replace VV := VV.keep hb10 lV
  replace HYV := Lib.hid (HYV.out.below (hb10.mono (Nat.le_of_lt lV)))
  replace HUV := Lib.hid (HUV.out.below (hb10.mono (Nat.le_of_lt lV)))
  replace lU := Nat.lt_of_lt_of_le lU hb10.size
  replace lM := Nat.lt_of_lt_of_le lM hb10.size
  replace lV := Nat.lt_of_lt_of_le lV hb10.size
  replace HBB := Lib.hid (HBB.out.next hb10)
  replace HYY := Lib.hid (HYY.out.next hb10)
  replace HUI := Lib.hid (HUI.out.next hb10)
  replace l3 := Nat.lt_of_lt_of_le l3 hb10.size
  replace hx := bt hx hb10
  clear HUV HYV XX EE GG l3 HBB HRG hb10 lU lV
  have HKT := Lib.hid (show Calls Try.prog 16 #[.agg #[.slice u.A K u.c], .agg #[.slice none 0 0]] w12 fun e w' => e = .returned (.bool true) ∧ Below w12.heap.size w12 w' from by
    have h9 := tab_same u noTV w12 HUI.out (tbl.TV.Own.inn (noTV_own w12 0)) (by rw [HUE.out]; exact HEL.out)
    rw [decide_eq_true (show u.es = noTV.es from HUE.out.trans HES.out), tbl.TV.v, tbl.TV.v, ← HKE.out] at h9
    exact h9)
  have u0 := UU.c0
  have v0 := VV.c0
  have vf := VV.f0
  go_upto_region 14 with (go_at_call 16; (with_reducible refine (HKT.out).mono ?_); rintro e w13 ⟨rfl, hb13⟩)
  clear u0 v0 vf
  replace MM := MM.keep hb13 lM
  replace lM := Nat.lt_of_lt_of_le lM hb13.size
  replace HYY := Lib.hid (HYY.out.next hb13)
  replace hx := bt hx hb13
  clear hb13 HKT UU VV HUI HUE HKE HEL HES HCT HPL qb qt
  obtain ⟨m0, m1, m2, -, -, -⟩ := id MM
  by_cases hr : 0 ≤ root ∧ root ≤ 4294967295
  case neg =>
    obtain ⟨rfl, rfl, rfl⟩ := HE1.out hr
    have q : root < 0 ∨ (0 ≤ root ∧ 4294967295 < root) := by omega
    clear hr HE1 HE2 HE3
    rcases q with q | ⟨q, q2⟩
    all_goals
      go_wp2_with (go_at_call 17; (with_reducible refine ((wk_ent _)).mono ?_); rintro e w14 ⟨rfl, hb14⟩)
      go_ret
      exact ⟨rfl, bt hx hb14⟩
  obtain ⟨r1, r2⟩ := id hr
  by_cases h8 : m = 8
  case neg =>
    obtain ⟨rfl, rfl, rfl⟩ := HE2.out hr h8
    have i2 : ((m : Int) != 8) = true := bne_iff_ne.2 (by omega)
    clear hr HE1 HE2 HE3 h8
    all_goals
      go_wp2_with (go_at_call 17; (with_reducible refine ((wk_ent _)).mono ?_); rintro e w14 ⟨rfl, hb14⟩)
      go_ret
      exact ⟨rfl, bt hx hb14⟩
  obtain ⟨rfl, hmm, rfl⟩ := HE3.out hr h8
  subst h8
  have HMM := Lib.hid hmm
  have q1 : (root == root) = true := beq_self_eq_true _
  have q2 : (mm == mm) = true := beq_self_eq_true _
  clear hmm HE1 HE2 HE3
  have HEN := Lib.hid (show ∀ W, Below w13.heap.size w13 W → Calls Try.prog 18 #[.int .i64 root, .slice B (8 : Nat) q] W fun e w' => e = .returned (.agg #[.int .i64 root, .int .i64 mm, .bool false]) ∧ Below W.heap.size W w' from fun W hW => by
    rw [HMM.out]
    exact rentry_any root B 8 q y W HYL.out (by decide) (HYY.out.next hW))
  go_upto_region 18 with fail
  have HF := Lib.hid (show ∀ W, Below w13.heap.size w13 W → W.cell? ⟨gM, 0, none⟩ = some (.int .i64 root) ∧ W.cell? ⟨gM, 1, none⟩ = some (.int .i64 mm) ∧ W.cell? ⟨gM, 2, none⟩ = some (.bool false) ∧ Below w13.heap.size w13 W from fun W h => ⟨kst h lM m0, kst h lM m1, kst h lM m2, h⟩)
  go_region_held3 (fun W => W.cell? ⟨gM, 0, none⟩ = some (.int .i64 root) ∧ W.cell? ⟨gM, 1, none⟩ = some (.int .i64 mm) ∧ W.cell? ⟨gM, 2, none⟩ = some (.bool false) ∧ Below w13.heap.size w13 W)
    ((refine HF.out _ ?_; first
      | with_reducible exact hb9
      | with_reducible exact hb1
      | with_reducible exact below_dr (Below.refl _ _)
      | fail))
    (first
      | (go_at_call 18; (with_reducible refine (HEN.out _ (below_dr (Below.refl _ _))).mono ?_); rintro e w15 ⟨rfl, hbq⟩; have hb1 := bt (below_dr (Below.refl w13.heap.size w13)) hbq; clear hbq)
      | (go_at_call 17; (with_reducible refine (wk_ent _).mono ?_); rintro e w16 ⟨rfl, hbq⟩; have hb9 := bt hb1 hbq; clear hbq)
      | fail)
  go_wp2
  go_ret
  exact ⟨rfl, bt hx hb9⟩
/-- The law. -/
theorem exact_law (z d s l a e addr st sm root : Int) (ls : Bool) (A B : Option Addr) (n k m q : Nat) (b y : List UInt8) (w : World) (hn : b.length = n) (hm : y.length = m) (hk : n ≤ k) (hkm : k ≤ maxLen) (hA : Sl w w.heap.size A b) (hB : Sl w w.heap.size B y) :
    Calls Try.prog 3 #[.agg #[.int .i64 z, .int .i64 d, .int .i64 s, .int .i64 l, .int .i64 a], .agg #[.int .i64 e, .slice A n k], .int .i64 addr, .agg #[.int .i64 st, .int .i64 sm, .bool ls], .int .i64 root, .slice B m q] w fun e w' => e = .returned (.bool true) ∧ Below w.heap.size w w' := by
  by_cases h : 300 < n ∨ 100 < m
  · exact ex_heavy z d s l a e addr st sm root ls A B n k m q b y w hn hm hk hkm hA hB h
  · by_cases hg : Ok z d s l a
    · exact ex_geo z d s l a e addr st sm root ls A B n k m q b y w hn hm hk hkm hA hB (by omega) (by omega) hg
    · exact ex_nogeo z d s l a e addr st sm root ls A B n k m q b y w hn hm hk hkm hA hB (by omega) (by omega) hg
end Go.Proofs.Ytejfehkcjcohdaa.ent
