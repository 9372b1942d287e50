/-
  The law SealExact, walked: it returns true for every sector, bytes, bits. No condition.
-/
import Derived.Test.YtajgkfcflbmkdaaSlLawB
import Derived.Test.YtajgkfcflbmkdaaSlLawE
namespace Go.Proofs.Ytajgkfcflbmkdaa.sel
open Go.RowKit Go.Lib
open Go.Proofs.Ytajgkfcflbmkdaa.crc (TurnedAll)

theorem ropen_at (n x : Nat) (X : Option Addr) (b : List UInt8) (W : World) (hlen : b.length = n) (h : Lies W X x b) :
    Calls Try.prog 13 #[.slice X n x] W fun e w' => (∃ Y y, e = .returned (.tuple #[.agg #[.int .i64 (opened b).addr, .int .i64 (opened b).stamp, .slice Y (opened b).load.length y], .int .i64 (opened b).err]) ∧ Lies w' Y y (opened b).load) ∧ Below W.heap.size W w' := by
  refine (ref_open n X x b W hlen (by have := h.1; omega) h.2.2).mono ?_
  rintro e w' ⟨hm, hb⟩
  obtain ⟨Y, q, y, rfl, ho⟩ := hm.at
  obtain ⟨rfl, hl⟩ := own_lies ho
  exact ⟨⟨Y, y, rfl, hl⟩, hb⟩
theorem rflip_at (N : Nat) (bit msk : Int) (X : Option Addr) (x : Nat) (E out : List UInt8) (W : World) (hN : E.length = N) (hl : N ≤ 1048576) (h : Lies W X x E) (ht : TurnedAll E out (place bit N) (maskOf msk)) :
    Calls Try.prog 16 #[.slice X N x, .int .i64 bit, .int .i64 msk] W fun e w' => (∃ Y y, e = .returned (.slice Y N y) ∧ Lies w' Y y out) ∧ Below W.heap.size W w' := by
  refine (ref_flip_all X x _ N E bit msk W hN h.2.2 hl).mono ?_
  rintro e w' ⟨⟨o2, ht2, v, rfl, ho⟩, hb⟩
  obtain rfl := turned_same ht ht2
  obtain ⟨Y, y, rfl, -, -, -, -⟩ := ho.form
  have hl := ht.1
  rw [hN] at hl
  rw [hl] at ho ⊢
  exact ⟨⟨Y, y, rfl, (own_lies ho).2⟩, hb⟩
theorem opened_load (b : List UInt8) : (opened b).load.length ≤ 96 := by
  by_cases h : (opened b).err = 0
  · exact (enc_opened h).2.2.2
  · rw [opened_err h]
    exact Nat.zero_le _
theorem exact_long (a s x y : Int) (A B : Option Addr) (n c m d : Nat) (w : World) (h : 300 < n ∨ 300 < m) :
    Calls Try.prog 3 #[.agg #[.int .i64 a, .int .i64 s, .slice A n c], .slice B m d, .int .i64 x, .int .i64 y] w fun e w' => e = .returned (.bool true) ∧ Below w.heap.size w w' := by
  by_cases h1 : 300 < n
  · have i1 : (300 : Int) < (n : Int) := by omega
    clear h h1
    go_enter Try.func3, Try.ntmps3
    go_wp2
    go_ret
    exact ⟨rfl, bl w _⟩
  · have i1 : ¬ (300 : Int) < (n : Int) := by omega
    have i2 : (300 : Int) < (m : Int) := by omega
    clear h h1
    go_enter Try.func3, Try.ntmps3
    go_wp2
    go_ret
    exact ⟨rfl, bl w _⟩
set_option maxHeartbeats 4000000 in
set_option maxRecDepth 100000 in
theorem exact_1 (a s x y : Int) (A B : Option Addr) (n c m d : Nat) (l b : List UInt8) (w : World) (hln : l.length = n) (hm : b.length = m) (h : n ≤ 300) (h' : m ≤ 300) (hA : Sl w w.heap.size A l) (hB : Lies w B d b) (ho : ¬ OkS a s) :
    Calls Try.prog 3 #[.agg #[.int .i64 a, .int .i64 s, .slice A n c], .slice B m d, .int .i64 x, .int .i64 y] w fun e w' => e = .returned (.bool true) ∧ Below w.heap.size w w' := by
  have i1 : ¬ (300 : Int) < (n : Int) := by omega
  have i2 : ¬ (300 : Int) < (m : Int) := by omega
  have hb0 := bl w (.cells #[.int .i64 a, .int .i64 s, .slice A n c] 24)
  have t0 := three_new w (.int .i64 a) (.int .i64 s) (.slice A n c) 24
  have l0 : w.heap.size < (w.alloc (.cells #[.int .i64 a, .int .i64 s, .slice A n c] 24)).heap.size := by simp
  have hBl : ∀ (W : World), Below w.heap.size w W → Lies W B d b := fun W hb => ⟨hB.1, hB.2.1, (hB.2.2.below hb).more hb.size⟩
  have cT : ∀ (W : World), Below w.heap.size w W → Calls Try.prog 10 #[.slice B m d] W fun e w' => (∃ Y y, e = .returned (.slice Y m y) ∧ Lies w' Y y b) ∧ Below W.heap.size W w' := fun W hb => by
    have := twin_any B d _ b W (hBl W hb).2.2 (by omega)
    rw [hm] at this
    refine this.mono ?_
    rintro e w' ⟨⟨v, rfl, ho⟩, hb'⟩
    obtain ⟨Y, y, rfl, -, -, -, -⟩ := ho.form
    rw [hm] at ho ⊢
    exact ⟨⟨Y, y, rfl, (own_lies ho).2⟩, hb'⟩
  have cM := fun (W : World) (hb : Below w.heap.size w W) => make_at a s A n c l W hln ((hA.below hb).more hb.size)
  have cO := fun (W : World) (X : Option Addr) (q : Nat) (hX : Lies W X q b) => open_at m q X b W hm hX
  have cR := fun (W : World) (hb : Below w.heap.size w W) => ropen_at m d B b W hm (hBl W hb)
  have cF := fun (W : World) (X : Option Addr) (q : Nat) (hX : Lies W X q b) => flip_at m x y X q b W hm (by omega) hX
  have cG := fun (W : World) (out : List UInt8) (hb : Below w.heap.size w W) (ht : TurnedAll b out (place x m) (maskOf y)) => rflip_at m x y B d b out W hm (by omega) (hBl W hb) ht
  have hol : ∀ out, TurnedAll b out (place x m) (maskOf y) → out.length = m := fun out ht => by rw [ht.1, hm]
  generalize place x m = p at *
  generalize maskOf y = Y at *
  have cE : ∀ (W : World) (X Z : Option Addr) (q z : Nat) (out : List UInt8), TurnedAll b out p Y → Lies W X q out → Lies W Z z out → Calls Try.prog 14 #[.slice X m q, .slice Z m z] W fun e w' => e = .returned (.bool true) ∧ Below W.heap.size W w' := fun W X Z q z out ht h1 h2 => by
    have := bytes_lies m m X Z q z out out W (hol out ht) (hol out ht) (by omega) h1 h2
    rwa [decide_eq_true rfl] at this
  have cB : ∀ (W : World) (X : Option Addr) (q : Nat), Below w.heap.size w W → Lies W X q b → Calls Try.prog 14 #[.slice X m q, .slice B m d] W fun e w' => e = .returned (.bool true) ∧ Below W.heap.size W w' := fun W X q hb h1 => by
    have := bytes_lies m m X B q d b b W hm hm (by omega) h1 (hBl W hb)
    rwa [decide_eq_true rfl] at this
  have hk96 := opened_load b
  generalize opened b = r at *
  obtain ⟨er, ad, st, ld⟩ := r
  simp only at cO cR hk96
  obtain ⟨k, hk⟩ : ∃ k, ld.length = k := ⟨_, rfl⟩
  rw [hk] at cO cR hk96
  have cS : ∀ (W : World) (X Z : Option Addr) (q z : Nat), Lies W X q ld → Lies W Z z ld → Calls Try.prog 17 #[.agg #[.int .i64 ad, .int .i64 st, .slice X k q], .agg #[.int .i64 ad, .int .i64 st, .slice Z k z]] W fun e w' => e = .returned (.bool true) ∧ Below W.heap.size W w' := fun W X Z q z h1 h2 => by
    have := sector_lies ad st ad st k k q z X Z ld ld W hk hk (by omega) h1 h2
    simpa using this
  have cQ := fun (W : World) => ref_right a s (.slice A n c) W ⟨A, n, c, rfl⟩
  have g1 : ((er : Int) != (er : Int)) = false := bne_self_eq_false _
  have g2 : (er != er) = false := bne_self_eq_false _
  rw [decide_eq_false ho] at cQ
  rw [made_arg l ho] at cM
  simp only [List.length_nil] at cM
  have HT := Lib.hid cT
  have HM := Lib.hid cM
  have HO := Lib.hid cO
  have HR := Lib.hid cR
  have HF := Lib.hid cF
  have HG := Lib.hid cG
  have HE := Lib.hid cE
  have HB := Lib.hid cB
  have HS := Lib.hid cS
  have HQ := Lib.hid cQ
  clear cT cM cO cR cF cG cE cB cS cQ hBl hol hm hln hk hA hB
  go_enter Try.func3, Try.ntmps3
  go_wp2_with fail
  generalize w.alloc (.cells #[.int .i64 a, .int .i64 s, .slice A n c] 24) = w0 at *
  go_wp2_with (first
    | (go_at_call 10; (with_reducible refine (HT.out _ hb0).mono ?_); rintro e w1 ⟨⟨X1, x1, rfl, hX1⟩, hb1⟩; obtain ⟨k0, k1, k2, -, -, -⟩ := t0.keep hb1 l0; have hd1 := bt hb0 hb1)
    | (go_at_call 11; (with_reducible refine (HM.out _ hd1).mono ?_); rintro e w2 ⟨⟨X2, x2, rfl, hX2⟩, hb2⟩; have hb02 := bt hb1 hb2; have hd2 := bt hd1 hb2)
    | (go_at_call 12; (with_reducible refine (HO.out _ _ _ (hX1.next hb2)).mono ?_); rintro e w3 ⟨⟨Y3, y3, rfl, hY3⟩, hb3⟩
       have ha3 := bl w3 (.cells #[.int .i64 ad, .int .i64 st, .slice Y3 k y3] 24)
       have hb3' := bt hb3 ha3
       have t3 := three_new w3 (.int .i64 ad) (.int .i64 st) (.slice Y3 k y3) 24
       have l3 : w3.heap.size < (w3.alloc (.cells #[.int .i64 ad, .int .i64 st, .slice Y3 k y3] 24)).heap.size := by simp
       have hY3' := hY3.next ha3
       have hd3 := bt hd2 hb3')
    | (go_at_call 13; (with_reducible refine (HR.out _ hd3).mono ?_); rintro e w4 ⟨⟨Y4, y4, rfl, hY4⟩, hb4⟩
       have ha4 := bl w4 (.cells #[.int .i64 ad, .int .i64 st, .slice Y4 k y4] 24)
       have hb4' := bt hb4 ha4
       have t4 := three_new w4 (.int .i64 ad) (.int .i64 st) (.slice Y4 k y4) 24
       have l4 : w4.heap.size < (w4.alloc (.cells #[.int .i64 ad, .int .i64 st, .slice Y4 k y4] 24)).heap.size := by simp
       have hY4' := hY4.next ha4
       have hd4 := bt hd3 hb4'
       have hX14 := hX1.next (bt hb2 (bt hb3' hb4')))
    | (go_at_call 15; (with_reducible refine (HF.out _ _ _ hX14).mono ?_); rintro e w5 ⟨⟨X5, x5, out, rfl, -, hX5, ht⟩, hb5⟩; have hd5 := bt hd4 hb5)
    | (go_at_call 16; (with_reducible refine (HG.out _ _ hd5 ht).mono ?_); rintro e w6 ⟨⟨X6, x6, rfl, hX6⟩, hb6⟩; have hd6 := bt hd5 hb6)
    | (go_at_call 14; (with_reducible refine (HE.out _ _ _ _ _ _ ht (hX5.next hb6) hX6).mono ?_); rintro e w7 ⟨rfl, hb7⟩
       have hb47 := bt hb5 (bt hb6 hb7)
       have hd7 := bt hd6 hb7
       obtain ⟨p0, p1, p2, -, -, -⟩ := t3.keep (bt hb4' hb47) l3
       obtain ⟨q0, q1, q2, -, -, -⟩ := t4.keep hb47 l4)
    | (go_at_call 17; (with_reducible refine (HS.out _ _ _ _ _ (hY3'.next (bt hb4' hb47)) (hY4'.next hb47)).mono ?_); rintro e w8 ⟨rfl, hb8⟩; have hd8 := bt hd7 hb8)
    | (go_at_call 14; (with_reducible refine (HB.out _ _ _ hd8 (hX14.next (bt hb47 hb8))).mono ?_); rintro e w9 ⟨rfl, hb9⟩
       have hb39 := bt hb3' (bt hb4' (bt hb47 (bt hb8 hb9)))
       have hd9 := bt hd8 hb9
       obtain ⟨r0, r1, r2, -, -, -⟩ := t0.keep (bt hb02 hb39) l0)
    | (go_at_call 18; (with_reducible refine (HQ.out _).mono ?_); rintro e w10 ⟨rfl, hb10⟩
       have hd10 := bt hd9 hb10
       obtain ⟨s0, s1, s2, -, -, -⟩ := t0.keep (bt hb02 (bt hb39 hb10)) l0)
    | (go_at_call 19; (with_reducible refine (wk_any _).mono ?_); rintro e w13 ⟨rfl, hb13⟩))
  go_ret
  exact ⟨rfl, bt hd10 hb13⟩
set_option maxHeartbeats 4000000 in
set_option maxRecDepth 100000 in
theorem exact_2 (a s x y : Int) (A B : Option Addr) (n c m d : Nat) (l b : List UInt8) (w : World) (hln : l.length = n) (hm : b.length = m) (h : n ≤ 300) (h' : m ≤ 300) (hA : Sl w w.heap.size A l) (hB : Lies w B d b) (ho : OkS a s) (hn : 96 < n) :
    Calls Try.prog 3 #[.agg #[.int .i64 a, .int .i64 s, .slice A n c], .slice B m d, .int .i64 x, .int .i64 y] w fun e w' => e = .returned (.bool true) ∧ Below w.heap.size w w' := by
  have i1 : ¬ (300 : Int) < (n : Int) := by omega
  have i2 : ¬ (300 : Int) < (m : Int) := by omega
  have hb0 := bl w (.cells #[.int .i64 a, .int .i64 s, .slice A n c] 24)
  have t0 := three_new w (.int .i64 a) (.int .i64 s) (.slice A n c) 24
  have l0 : w.heap.size < (w.alloc (.cells #[.int .i64 a, .int .i64 s, .slice A n c] 24)).heap.size := by simp
  have hBl : ∀ (W : World), Below w.heap.size w W → Lies W B d b := fun W hb => ⟨hB.1, hB.2.1, (hB.2.2.below hb).more hb.size⟩
  have cT : ∀ (W : World), Below w.heap.size w W → Calls Try.prog 10 #[.slice B m d] W fun e w' => (∃ Y y, e = .returned (.slice Y m y) ∧ Lies w' Y y b) ∧ Below W.heap.size W w' := fun W hb => by
    have := twin_any B d _ b W (hBl W hb).2.2 (by omega)
    rw [hm] at this
    refine this.mono ?_
    rintro e w' ⟨⟨v, rfl, ho⟩, hb'⟩
    obtain ⟨Y, y, rfl, -, -, -, -⟩ := ho.form
    rw [hm] at ho ⊢
    exact ⟨⟨Y, y, rfl, (own_lies ho).2⟩, hb'⟩
  have cM := fun (W : World) (hb : Below w.heap.size w W) => make_at a s A n c l W hln ((hA.below hb).more hb.size)
  have cO := fun (W : World) (X : Option Addr) (q : Nat) (hX : Lies W X q b) => open_at m q X b W hm hX
  have cR := fun (W : World) (hb : Below w.heap.size w W) => ropen_at m d B b W hm (hBl W hb)
  have cF := fun (W : World) (X : Option Addr) (q : Nat) (hX : Lies W X q b) => flip_at m x y X q b W hm (by omega) hX
  have cG := fun (W : World) (out : List UInt8) (hb : Below w.heap.size w W) (ht : TurnedAll b out (place x m) (maskOf y)) => rflip_at m x y B d b out W hm (by omega) (hBl W hb) ht
  have hol : ∀ out, TurnedAll b out (place x m) (maskOf y) → out.length = m := fun out ht => by rw [ht.1, hm]
  generalize place x m = p at *
  generalize maskOf y = Y at *
  have cE : ∀ (W : World) (X Z : Option Addr) (q z : Nat) (out : List UInt8), TurnedAll b out p Y → Lies W X q out → Lies W Z z out → Calls Try.prog 14 #[.slice X m q, .slice Z m z] W fun e w' => e = .returned (.bool true) ∧ Below W.heap.size W w' := fun W X Z q z out ht h1 h2 => by
    have := bytes_lies m m X Z q z out out W (hol out ht) (hol out ht) (by omega) h1 h2
    rwa [decide_eq_true rfl] at this
  have cB : ∀ (W : World) (X : Option Addr) (q : Nat), Below w.heap.size w W → Lies W X q b → Calls Try.prog 14 #[.slice X m q, .slice B m d] W fun e w' => e = .returned (.bool true) ∧ Below W.heap.size W w' := fun W X q hb h1 => by
    have := bytes_lies m m X B q d b b W hm hm (by omega) h1 (hBl W hb)
    rwa [decide_eq_true rfl] at this
  have hk96 := opened_load b
  generalize opened b = r at *
  obtain ⟨er, ad, st, ld⟩ := r
  simp only at cO cR hk96
  obtain ⟨k, hk⟩ : ∃ k, ld.length = k := ⟨_, rfl⟩
  rw [hk] at cO cR hk96
  have cS : ∀ (W : World) (X Z : Option Addr) (q z : Nat), Lies W X q ld → Lies W Z z ld → Calls Try.prog 17 #[.agg #[.int .i64 ad, .int .i64 st, .slice X k q], .agg #[.int .i64 ad, .int .i64 st, .slice Z k z]] W fun e w' => e = .returned (.bool true) ∧ Below W.heap.size W w' := fun W X Z q z h1 h2 => by
    have := sector_lies ad st ad st k k q z X Z ld ld W hk hk (by omega) h1 h2
    simpa using this
  have cQ := fun (W : World) => ref_right a s (.slice A n c) W ⟨A, n, c, rfl⟩
  have g1 : ((er : Int) != (er : Int)) = false := bne_self_eq_false _
  have g2 : (er != er) = false := bne_self_eq_false _
  rw [decide_eq_true ho] at cQ
  rw [show made a s l = ⟨2, []⟩ by unfold made; rw [if_pos ho, if_pos (by omega)]] at cM
  simp only [List.length_nil] at cM
  have i3 : (96 : Int) < (n : Int) := by omega
  have HT := Lib.hid cT
  have HM := Lib.hid cM
  have HO := Lib.hid cO
  have HR := Lib.hid cR
  have HF := Lib.hid cF
  have HG := Lib.hid cG
  have HE := Lib.hid cE
  have HB := Lib.hid cB
  have HS := Lib.hid cS
  have HQ := Lib.hid cQ
  clear cT cM cO cR cF cG cE cB cS cQ hBl hol hm hln hk hA hB
  go_enter Try.func3, Try.ntmps3
  go_wp2_with fail
  generalize w.alloc (.cells #[.int .i64 a, .int .i64 s, .slice A n c] 24) = w0 at *
  go_wp2_with (first
    | (go_at_call 10; (with_reducible refine (HT.out _ hb0).mono ?_); rintro e w1 ⟨⟨X1, x1, rfl, hX1⟩, hb1⟩; obtain ⟨k0, k1, k2, -, -, -⟩ := t0.keep hb1 l0; have hd1 := bt hb0 hb1)
    | (go_at_call 11; (with_reducible refine (HM.out _ hd1).mono ?_); rintro e w2 ⟨⟨X2, x2, rfl, hX2⟩, hb2⟩; have hb02 := bt hb1 hb2; have hd2 := bt hd1 hb2)
    | (go_at_call 12; (with_reducible refine (HO.out _ _ _ (hX1.next hb2)).mono ?_); rintro e w3 ⟨⟨Y3, y3, rfl, hY3⟩, hb3⟩
       have ha3 := bl w3 (.cells #[.int .i64 ad, .int .i64 st, .slice Y3 k y3] 24)
       have hb3' := bt hb3 ha3
       have t3 := three_new w3 (.int .i64 ad) (.int .i64 st) (.slice Y3 k y3) 24
       have l3 : w3.heap.size < (w3.alloc (.cells #[.int .i64 ad, .int .i64 st, .slice Y3 k y3] 24)).heap.size := by simp
       have hY3' := hY3.next ha3
       have hd3 := bt hd2 hb3')
    | (go_at_call 13; (with_reducible refine (HR.out _ hd3).mono ?_); rintro e w4 ⟨⟨Y4, y4, rfl, hY4⟩, hb4⟩
       have ha4 := bl w4 (.cells #[.int .i64 ad, .int .i64 st, .slice Y4 k y4] 24)
       have hb4' := bt hb4 ha4
       have t4 := three_new w4 (.int .i64 ad) (.int .i64 st) (.slice Y4 k y4) 24
       have l4 : w4.heap.size < (w4.alloc (.cells #[.int .i64 ad, .int .i64 st, .slice Y4 k y4] 24)).heap.size := by simp
       have hY4' := hY4.next ha4
       have hd4 := bt hd3 hb4'
       have hX14 := hX1.next (bt hb2 (bt hb3' hb4')))
    | (go_at_call 15; (with_reducible refine (HF.out _ _ _ hX14).mono ?_); rintro e w5 ⟨⟨X5, x5, out, rfl, -, hX5, ht⟩, hb5⟩; have hd5 := bt hd4 hb5)
    | (go_at_call 16; (with_reducible refine (HG.out _ _ hd5 ht).mono ?_); rintro e w6 ⟨⟨X6, x6, rfl, hX6⟩, hb6⟩; have hd6 := bt hd5 hb6)
    | (go_at_call 14; (with_reducible refine (HE.out _ _ _ _ _ _ ht (hX5.next hb6) hX6).mono ?_); rintro e w7 ⟨rfl, hb7⟩
       have hb47 := bt hb5 (bt hb6 hb7)
       have hd7 := bt hd6 hb7
       obtain ⟨p0, p1, p2, -, -, -⟩ := t3.keep (bt hb4' hb47) l3
       obtain ⟨q0, q1, q2, -, -, -⟩ := t4.keep hb47 l4)
    | (go_at_call 17; (with_reducible refine (HS.out _ _ _ _ _ (hY3'.next (bt hb4' hb47)) (hY4'.next hb47)).mono ?_); rintro e w8 ⟨rfl, hb8⟩; have hd8 := bt hd7 hb8)
    | (go_at_call 14; (with_reducible refine (HB.out _ _ _ hd8 (hX14.next (bt hb47 hb8))).mono ?_); rintro e w9 ⟨rfl, hb9⟩
       have hb39 := bt hb3' (bt hb4' (bt hb47 (bt hb8 hb9)))
       have hd9 := bt hd8 hb9
       obtain ⟨r0, r1, r2, -, -, -⟩ := t0.keep (bt hb02 hb39) l0)
    | (go_at_call 18; (with_reducible refine (HQ.out _).mono ?_); rintro e w10 ⟨rfl, hb10⟩
       have hd10 := bt hd9 hb10
       obtain ⟨s0, s1, s2, -, -, -⟩ := t0.keep (bt hb02 (bt hb39 hb10)) l0)
    | (go_at_call 19; (with_reducible refine (wk_any _).mono ?_); rintro e w13 ⟨rfl, hb13⟩))
  go_ret
  exact ⟨rfl, bt hd10 hb13⟩
set_option maxHeartbeats 4000000 in
set_option maxRecDepth 100000 in
theorem exact_3 (a s : Nat) (x y : Int) (A B : Option Addr) (n c m d : Nat) (l b : List UInt8) (w : World) (hln : l.length = n) (hm : b.length = m) (h' : m ≤ 300) (hA : Sl w w.heap.size A l) (hB : Lies w B d b) (ha : a < 65536) (hs : s < 4294967296) (hn : n ≤ 96) :
    Calls Try.prog 3 #[.agg #[.int .i64 a, .int .i64 s, .slice A n c], .slice B m d, .int .i64 x, .int .i64 y] w fun e w' => e = .returned (.bool true) ∧ Below w.heap.size w w' := by
  have i1 : ¬ (300 : Int) < (n : Int) := by omega
  have i2 : ¬ (300 : Int) < (m : Int) := by omega
  have hb0 := bl w (.cells #[.int .i64 a, .int .i64 s, .slice A n c] 24)
  have t0 := three_new w (.int .i64 a) (.int .i64 s) (.slice A n c) 24
  have l0 : w.heap.size < (w.alloc (.cells #[.int .i64 a, .int .i64 s, .slice A n c] 24)).heap.size := by simp
  have hBl : ∀ (W : World), Below w.heap.size w W → Lies W B d b := fun W hb => ⟨hB.1, hB.2.1, (hB.2.2.below hb).more hb.size⟩
  have cT : ∀ (W : World), Below w.heap.size w W → Calls Try.prog 10 #[.slice B m d] W fun e w' => (∃ Y y, e = .returned (.slice Y m y) ∧ Lies w' Y y b) ∧ Below W.heap.size W w' := fun W hb => by
    have := twin_any B d _ b W (hBl W hb).2.2 (by omega)
    rw [hm] at this
    refine this.mono ?_
    rintro e w' ⟨⟨v, rfl, ho⟩, hb'⟩
    obtain ⟨Y, y, rfl, -, -, -, -⟩ := ho.form
    rw [hm] at ho ⊢
    exact ⟨⟨Y, y, rfl, (own_lies ho).2⟩, hb'⟩
  have cM := fun (W : World) (hb : Below w.heap.size w W) => make_at a s A n c l W hln ((hA.below hb).more hb.size)
  have cO := fun (W : World) (X : Option Addr) (q : Nat) (hX : Lies W X q b) => open_at m q X b W hm hX
  have cR := fun (W : World) (hb : Below w.heap.size w W) => ropen_at m d B b W hm (hBl W hb)
  have cF := fun (W : World) (X : Option Addr) (q : Nat) (hX : Lies W X q b) => flip_at m x y X q b W hm (by omega) hX
  have cG := fun (W : World) (out : List UInt8) (hb : Below w.heap.size w W) (ht : TurnedAll b out (place x m) (maskOf y)) => rflip_at m x y B d b out W hm (by omega) (hBl W hb) ht
  have hol : ∀ out, TurnedAll b out (place x m) (maskOf y) → out.length = m := fun out ht => by rw [ht.1, hm]
  generalize place x m = p at *
  generalize maskOf y = Y at *
  have cE : ∀ (W : World) (X Z : Option Addr) (q z : Nat) (out : List UInt8), TurnedAll b out p Y → Lies W X q out → Lies W Z z out → Calls Try.prog 14 #[.slice X m q, .slice Z m z] W fun e w' => e = .returned (.bool true) ∧ Below W.heap.size W w' := fun W X Z q z out ht h1 h2 => by
    have := bytes_lies m m X Z q z out out W (hol out ht) (hol out ht) (by omega) h1 h2
    rwa [decide_eq_true rfl] at this
  have cB : ∀ (W : World) (X : Option Addr) (q : Nat), Below w.heap.size w W → Lies W X q b → Calls Try.prog 14 #[.slice X m q, .slice B m d] W fun e w' => e = .returned (.bool true) ∧ Below W.heap.size W w' := fun W X q hb h1 => by
    have := bytes_lies m m X B q d b b W hm hm (by omega) h1 (hBl W hb)
    rwa [decide_eq_true rfl] at this
  have hk96 := opened_load b
  generalize opened b = r at *
  obtain ⟨er, ad, st, ld⟩ := r
  simp only at cO cR hk96
  obtain ⟨k, hk⟩ : ∃ k, ld.length = k := ⟨_, rfl⟩
  rw [hk] at cO cR hk96
  have cS : ∀ (W : World) (X Z : Option Addr) (q z : Nat), Lies W X q ld → Lies W Z z ld → Calls Try.prog 17 #[.agg #[.int .i64 ad, .int .i64 st, .slice X k q], .agg #[.int .i64 ad, .int .i64 st, .slice Z k z]] W fun e w' => e = .returned (.bool true) ∧ Below W.heap.size W w' := fun W X Z q z h1 h2 => by
    have := sector_lies ad st ad st k k q z X Z ld ld W hk hk (by omega) h1 h2
    simpa using this
  have cQ := fun (W : World) => ref_right a s (.slice A n c) W ⟨A, n, c, rfl⟩
  have g1 : ((er : Int) != (er : Int)) = false := bne_self_eq_false _
  have g2 : (er != er) = false := bne_self_eq_false _
  rw [decide_eq_true (show OkS a s from ⟨by omega, by omega, by omega, by omega⟩)] at cQ
  rw [made_ok ha hs (by omega)] at cM
  simp only [enc_length, hln] at cM
  have i3 : ¬ (96 : Int) < (n : Int) := by omega
  have cL := fun (W : World) (hb : Below w.heap.size w W) => ref_seal a s n c A l W ha hs hln hn ((hA.below hb).more hb.size)
  have hel : (enc a s l).length = n + 11 := by rw [enc_length, hln]
  have cK : ∀ (W : World) (X Z : Option Addr) (q z : Nat), Lies W X q (enc a s l) → Lies W Z z (enc a s l) → Calls Try.prog 14 #[.slice X (n + 11) q, .slice Z (n + 11) z] W fun e w' => e = .returned (.bool true) ∧ Below W.heap.size W w' := fun W X Z q z h1 h2 => by
    have := bytes_lies (n + 11) (n + 11) X Z q z (enc a s l) (enc a s l) W hel hel (by omega) h1 h2
    rwa [decide_eq_true rfl] at this
  generalize enc a s l = E at *
  have HL := Lib.hid cL
  have HK := Lib.hid cK
  clear cL cK hel ha hs
  have HT := Lib.hid cT
  have HM := Lib.hid cM
  have HO := Lib.hid cO
  have HR := Lib.hid cR
  have HF := Lib.hid cF
  have HG := Lib.hid cG
  have HE := Lib.hid cE
  have HB := Lib.hid cB
  have HS := Lib.hid cS
  have HQ := Lib.hid cQ
  clear cT cM cO cR cF cG cE cB cS cQ hBl hol hm hln hk hA hB
  go_enter Try.func3, Try.ntmps3
  go_wp2_with fail
  generalize w.alloc (.cells #[.int .i64 a, .int .i64 s, .slice A n c] 24) = w0 at *
  go_wp2_with (first
    | (go_at_call 10; (with_reducible refine (HT.out _ hb0).mono ?_); rintro e w1 ⟨⟨X1, x1, rfl, hX1⟩, hb1⟩; obtain ⟨k0, k1, k2, -, -, -⟩ := t0.keep hb1 l0; have hd1 := bt hb0 hb1)
    | (go_at_call 11; (with_reducible refine (HM.out _ hd1).mono ?_); rintro e w2 ⟨⟨X2, x2, rfl, hX2⟩, hb2⟩; have hb02 := bt hb1 hb2; have hd2 := bt hd1 hb2)
    | (go_at_call 12; (with_reducible refine (HO.out _ _ _ (hX1.next hb2)).mono ?_); rintro e w3 ⟨⟨Y3, y3, rfl, hY3⟩, hb3⟩
       have ha3 := bl w3 (.cells #[.int .i64 ad, .int .i64 st, .slice Y3 k y3] 24)
       have hb3' := bt hb3 ha3
       have t3 := three_new w3 (.int .i64 ad) (.int .i64 st) (.slice Y3 k y3) 24
       have l3 : w3.heap.size < (w3.alloc (.cells #[.int .i64 ad, .int .i64 st, .slice Y3 k y3] 24)).heap.size := by simp
       have hY3' := hY3.next ha3
       have hd3 := bt hd2 hb3')
    | (go_at_call 13; (with_reducible refine (HR.out _ hd3).mono ?_); rintro e w4 ⟨⟨Y4, y4, rfl, hY4⟩, hb4⟩
       have ha4 := bl w4 (.cells #[.int .i64 ad, .int .i64 st, .slice Y4 k y4] 24)
       have hb4' := bt hb4 ha4
       have t4 := three_new w4 (.int .i64 ad) (.int .i64 st) (.slice Y4 k y4) 24
       have l4 : w4.heap.size < (w4.alloc (.cells #[.int .i64 ad, .int .i64 st, .slice Y4 k y4] 24)).heap.size := by simp
       have hY4' := hY4.next ha4
       have hd4 := bt hd3 hb4'
       have hX14 := hX1.next (bt hb2 (bt hb3' hb4')))
    | (go_at_call 15; (with_reducible refine (HF.out _ _ _ hX14).mono ?_); rintro e w5 ⟨⟨X5, x5, out, rfl, -, hX5, ht⟩, hb5⟩; have hd5 := bt hd4 hb5)
    | (go_at_call 16; (with_reducible refine (HG.out _ _ hd5 ht).mono ?_); rintro e w6 ⟨⟨X6, x6, rfl, hX6⟩, hb6⟩; have hd6 := bt hd5 hb6)
    | (go_at_call 14; (with_reducible refine (HE.out _ _ _ _ _ _ ht (hX5.next hb6) hX6).mono ?_); rintro e w7 ⟨rfl, hb7⟩
       have hb47 := bt hb5 (bt hb6 hb7)
       have hd7 := bt hd6 hb7
       obtain ⟨p0, p1, p2, -, -, -⟩ := t3.keep (bt hb4' hb47) l3
       obtain ⟨q0, q1, q2, -, -, -⟩ := t4.keep hb47 l4)
    | (go_at_call 17; (with_reducible refine (HS.out _ _ _ _ _ (hY3'.next (bt hb4' hb47)) (hY4'.next hb47)).mono ?_); rintro e w8 ⟨rfl, hb8⟩; have hd8 := bt hd7 hb8)
    | (go_at_call 14; (with_reducible refine (HB.out _ _ _ hd8 (hX14.next (bt hb47 hb8))).mono ?_); rintro e w9 ⟨rfl, hb9⟩
       have hb39 := bt hb3' (bt hb4' (bt hb47 (bt hb8 hb9)))
       have hd9 := bt hd8 hb9
       obtain ⟨r0, r1, r2, -, -, -⟩ := t0.keep (bt hb02 hb39) l0)
    | (go_at_call 18; (with_reducible refine (HQ.out _).mono ?_); rintro e w10 ⟨rfl, hb10⟩
       have hd10 := bt hd9 hb10
       obtain ⟨s0, s1, s2, -, -, -⟩ := t0.keep (bt hb02 (bt hb39 hb10)) l0)
    | (go_at_call 20; (with_reducible refine (HL.out _ hd10).mono ?_); rintro e w11 ⟨⟨X11, x11, rfl, hX11⟩, hb11⟩; have hd11 := bt hd10 hb11)
    | (go_at_call 14; (with_reducible refine (HK.out _ _ _ _ _ (hX2.next (bt hb39 (bt hb10 hb11))) hX11).mono ?_); rintro e w12 ⟨rfl, hb12⟩; have hd12 := bt hd11 hb12)
    | (go_at_call 19; (with_reducible refine (wk_any _).mono ?_); rintro e w13 ⟨rfl, hb13⟩))
  go_ret
  exact ⟨rfl, bt hd12 hb13⟩
theorem exact_law (a s : Int) (A : Option Addr) (c : Nat) (l : List UInt8) (B : Option Addr) (d : Nat) (b : List UInt8) (x y : Int) (w : World) (hd : b.length ≤ d) (hdm : d ≤ maxLen) (hA : Sl w w.heap.size A l) (hB : Sl w w.heap.size B b) :
    Calls Try.prog 3 #[.agg #[.int .i64 a, .int .i64 s, .slice A l.length c], .slice B b.length d, .int .i64 x, .int .i64 y] w fun e w' => e = .returned (.bool true) ∧ Below w.heap.size w w' := by
  by_cases hl : 300 < l.length ∨ 300 < b.length
  · exact exact_long a s x y A B _ c _ d w hl
  · have g1 : l.length ≤ 300 := by omega
    have g2 : b.length ≤ 300 := by omega
    by_cases ho : OkS a s
    · by_cases hn : 96 < l.length
      · exact exact_2 a s x y A B _ c _ d l b w rfl rfl g1 g2 hA ⟨hd, hdm, hB⟩ ho hn
      · have ho' := ho
        obtain ⟨h1, h2, h3, h4⟩ := ho'
        obtain ⟨a', rfl⟩ : ∃ z : Nat, a = z := ⟨a.toNat, by omega⟩
        obtain ⟨s', rfl⟩ : ∃ z : Nat, s = z := ⟨s.toNat, by omega⟩
        exact exact_3 a' s' x y A B _ c _ d l b w rfl rfl g2 hA ⟨hd, hdm, hB⟩ (by omega) (by omega) (by omega)
    · exact exact_1 a s x y A B _ c _ d l b w rfl rfl g1 g2 hA ⟨hd, hdm, hB⟩ ho
end Go.Proofs.Ytajgkfcflbmkdaa.sel
