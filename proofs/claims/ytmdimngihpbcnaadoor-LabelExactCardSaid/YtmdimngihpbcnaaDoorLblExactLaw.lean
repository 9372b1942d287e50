/-
  The law LabelExact, walked: it returns true for every text, number and bytes. Conditions: 'Tabs' (the library's two tables are as its text lays them).
-/
import Derived.Test.YtmdimngihpbcnaaDoorLblRef
namespace Go.Proofs.YtmdimngihpbcnaaDoor.lbl
open Go.RowKit Go.Lib

theorem le_long (s : ByteArray) (A : Option Addr) (c m : Nat) (n : Int) (w : World) (h : 400 < s.size ∨ 400 < m) (hs : s.size ≤ maxLen) (hm : m ≤ maxLen) :
    Calls Tryd.prog 3 #[.string s, .int .i64 n, .slice A m c] w fun e w' => e = .returned (.bool true) ∧ Below w.heap.size w w' := by
  unfold maxLen at hs hm
  by_cases h1 : 400 < s.size
  · have hi : (400 : Int) < (s.size : Int) := by omega
    clear h
    go_enter Tryd.func3, Tryd.ntmps3
    go_wp2
    go_ret
    exact ⟨rfl, Below.refl _ _⟩
  · have h2 : 400 < m := by omega
    have hi : ¬ (400 : Int) < (s.size : Int) := by omega
    have hj : (400 : Int) < (m : Int) := by omega
    clear h
    go_enter Tryd.func3, Tryd.ntmps3
    go_wp2
    go_ret
    exact ⟨rfl, Below.refl _ _⟩

set_option maxHeartbeats 2000000 in
set_option maxRecDepth 100000 in
theorem le_ok_some (hV : ValidOk) (hC : CloneOk) (s : ByteArray) (A : Option Addr) (c : Nat) (l : List UInt8) (n : Int) (w : World) (hs : s.size ≤ 400) (hm : l.length ≤ 400) (hT : Tabs w) (hA : Sl w w.heap.size A l)
    (S C : ByteArray) (K : Int) (hK : 0 < K) (hE : labE s.data.toList = 0)
    (cR : ∀ (A : Option Addr) (c B : Nat) (W : World), Tabs W → Sl W B A l → l.length ≤ c → c ≤ maxLen → Calls Tryd.prog 11 #[.slice A l.length c] W fun e w' => e = .returned (.tuple #[.string S, .int .i64 K, .int .i64 0]) ∧ Below W.heap.size W w')
    (cRR : ∀ (B : Nat) (W : World), Sl W B A l → Calls Tryd.prog 13 #[.slice A l.length c] W fun e w' => e = .returned (.tuple #[.string S, .int .i64 K]) ∧ Below W.heap.size W w')
    (tC : ∀ W : World, Calls Tryd.prog 19 #[.string s, .int .i64 n] W fun e w' => e = .returned (.string C) ∧ Below W.heap.size W w')
    (tR : ∀ W : World, Calls Tryd.prog 20 #[.string s, .int .i64 n] W fun e w' => e = .returned (.string C) ∧ W = w') :
    Calls Tryd.prog 3 #[.string s, .int .i64 n, .slice A l.length c] w fun e w' => e = .returned (.bool true) ∧ Below w.heap.size w w' := by
  have hi : ¬ (400 : Int) < (s.size : Int) := by omega
  have hj : ¬ (400 : Int) < (l.length : Int) := by omega
  have cB := fun W hW => bytes_ok hV s W (by omega) hW hE
  have cD := fun W => ref_bytes s W (by omega)
  have h24 := lab_len hE
  have hen : (encL s.data.toList).length = s.size + 1 := by rw [encL, List.length_cons, size_list]
  have HN := Lib.hid hen
  rw [size_list] at h24
  clear hen
  have cL := fun W => ref_label s W (by omega)
  have cC := fun W hW => check_any hV s W (by omega) hW
  rw [hE] at cL cC
  clear hE
  have rS := fun W => runes_any s W (by omega)
  have rR := fun W => ref_runes s W (by omega)
  generalize (toks s.data.toList).length = N at rS rR
  go_enter Tryd.func3, Tryd.ntmps3
  go_wp2_with (first
    | (go_at_call 9
       (with_reducible refine (twin_any _ _ _ _ _ hA (by omega)).mono ?_)
       rintro e w1 ⟨⟨v1, rfl, hown1⟩, hb1⟩
       obtain ⟨A1, c1, hv1, hc1, hm1, hs1, -⟩ := hown1.form
       subst hv1)
    | (go_at_call 10
       (with_reducible refine (cB _ (hT.next hb1)).mono ?_)
       rintro e w2 ⟨⟨v2, rfl, hown2⟩, hb2⟩
       have hb3 := bt hb1 hb2
       obtain ⟨A2, c2, hv2, hc2, hm2, hs2, -⟩ := hown2.form
       rw [HN.out] at hv2 hc2
       subst hv2)
    | (go_at_call 11
       (with_reducible refine (cR _ _ _ _ (hT.next hb3) (hs1.next hb2) hc1 hm1).mono ?_)
       rintro e w4 ⟨rfl, hb4⟩
       have hb5 := bt hb3 hb4)
    | (go_at_call 12
       (with_reducible refine (cL _).mono ?_)
       rintro e w6 ⟨rfl, rfl⟩)
    | (go_at_call 13
       (with_reducible refine (cRR _ _ (hA.below hb5)).mono ?_)
       rintro e w7 ⟨rfl, hb7⟩
       have hb8 := bt hb5 hb7)
    | (go_at_call 14
       (with_reducible refine (cC _ (hT.next hb8)).mono ?_)
       rintro e w9 ⟨rfl, hb9⟩
       have hba := bt hb8 hb9)
    | (go_at_call 16
       (with_reducible refine (cD _).mono ?_)
       rintro e wb ⟨⟨vb, rfl, hownb⟩, hbb⟩
       have hbc := bt hba hbb
       obtain ⟨Ab, cb, hvb, hcb, hmb, hsb, -⟩ := hownb.form
       rw [HN.out] at hvb hcb
       subst hvb
       have hx2 := (((hs2.next hb4).next hb7).next hb9).next hbb
       have cE := keep_same A2 Ab c2 cb _ _ _ _ hx2 hsb (Nat.le_refl _) (Nat.le_refl _) (by rw [HN.out]; omega)
       rw [HN.out] at cE)
    | (go_at_call 15
       (with_reducible refine cE.mono ?_)
       rintro e wd ⟨rfl, hbd⟩
       have hbe := bt hbc hbd
       have hx1 := ((((hs1.next hb2).next hb4).next hb7).next hb9).next (bt hbb hbd)
       have cG := keep_same A1 A c1 c _ _ _ _ hx1 ((hA.below hbe).more hbe.size) (Nat.le_refl _) (Nat.le_refl _) (by omega))
    | (go_at_call 15
       (with_reducible refine cG.mono ?_)
       rintro e wf ⟨rfl, hbf⟩
       have hbg := bt hbe hbf)
    | (go_at_call 17; (with_reducible refine (rS _).mono ?_); rintro e wh ⟨rfl, hbh⟩; have hbi := bt hbg hbh)
    | (go_at_call 18; (with_reducible refine (rR _).mono ?_); rintro e wi ⟨rfl, rfl⟩)
    | (go_at_call 19; (with_reducible refine (tC _).mono ?_); rintro e wk ⟨rfl, hbk⟩; have hbl := bt hbi hbk)
    | (go_at_call 20; (with_reducible refine (tR _).mono ?_); rintro e wl ⟨rfl, rfl⟩)
    | (go_at_call 21; (with_reducible refine (wakes_any hV hC _ (hT.next hbl)).mono ?_); rintro e wn ⟨rfl, hbn⟩; have hbo := bt hbl hbn))
  go_ret
  exact ⟨rfl, hbo⟩

set_option maxHeartbeats 2000000 in
set_option maxRecDepth 100000 in
theorem le_ok_none (hV : ValidOk) (hC : CloneOk) (s : ByteArray) (A : Option Addr) (c : Nat) (l : List UInt8) (n : Int) (w : World) (hs : s.size ≤ 400) (hm : l.length ≤ 400) (hT : Tabs w) (hA : Sl w w.heap.size A l)
    (S C : ByteArray) (hE : labE s.data.toList = 0)
    (cR : ∀ (A : Option Addr) (c B : Nat) (W : World), Tabs W → Sl W B A l → l.length ≤ c → c ≤ maxLen → Calls Tryd.prog 11 #[.slice A l.length c] W fun e w' => e = .returned (.tuple #[.string S, .int .i64 0, .int .i64 4]) ∧ Below W.heap.size W w')
    (cRR : ∀ (B : Nat) (W : World), Sl W B A l → Calls Tryd.prog 13 #[.slice A l.length c] W fun e w' => e = .returned (.tuple #[.string S, .int .i64 0]) ∧ Below W.heap.size W w')
    (tC : ∀ W : World, Calls Tryd.prog 19 #[.string s, .int .i64 n] W fun e w' => e = .returned (.string C) ∧ Below W.heap.size W w')
    (tR : ∀ W : World, Calls Tryd.prog 20 #[.string s, .int .i64 n] W fun e w' => e = .returned (.string C) ∧ W = w') :
    Calls Tryd.prog 3 #[.string s, .int .i64 n, .slice A l.length c] w fun e w' => e = .returned (.bool true) ∧ Below w.heap.size w w' := by
  have hi : ¬ (400 : Int) < (s.size : Int) := by omega
  have hj : ¬ (400 : Int) < (l.length : Int) := by omega
  have cB := fun W hW => bytes_ok hV s W (by omega) hW hE
  have cD := fun W => ref_bytes s W (by omega)
  have h24 := lab_len hE
  have hen : (encL s.data.toList).length = s.size + 1 := by rw [encL, List.length_cons, size_list]
  have HN := Lib.hid hen
  rw [size_list] at h24
  clear hen
  have cL := fun W => ref_label s W (by omega)
  have cC := fun W hW => check_any hV s W (by omega) hW
  rw [hE] at cL cC
  clear hE
  have rS := fun W => runes_any s W (by omega)
  have rR := fun W => ref_runes s W (by omega)
  generalize (toks s.data.toList).length = N at rS rR
  go_enter Tryd.func3, Tryd.ntmps3
  go_wp2_with (first
    | (go_at_call 9
       (with_reducible refine (twin_any _ _ _ _ _ hA (by omega)).mono ?_)
       rintro e w1 ⟨⟨v1, rfl, hown1⟩, hb1⟩
       obtain ⟨A1, c1, hv1, hc1, hm1, hs1, -⟩ := hown1.form
       subst hv1)
    | (go_at_call 10
       (with_reducible refine (cB _ (hT.next hb1)).mono ?_)
       rintro e w2 ⟨⟨v2, rfl, hown2⟩, hb2⟩
       have hb3 := bt hb1 hb2
       obtain ⟨A2, c2, hv2, hc2, hm2, hs2, -⟩ := hown2.form
       rw [HN.out] at hv2 hc2
       subst hv2)
    | (go_at_call 11
       (with_reducible refine (cR _ _ _ _ (hT.next hb3) (hs1.next hb2) hc1 hm1).mono ?_)
       rintro e w4 ⟨rfl, hb4⟩
       have hb5 := bt hb3 hb4)
    | (go_at_call 12
       (with_reducible refine (cL _).mono ?_)
       rintro e w6 ⟨rfl, rfl⟩)
    | (go_at_call 13
       (with_reducible refine (cRR _ _ (hA.below hb5)).mono ?_)
       rintro e w7 ⟨rfl, hb7⟩
       have hb8 := bt hb5 hb7)
    | (go_at_call 14
       (with_reducible refine (cC _ (hT.next hb8)).mono ?_)
       rintro e w9 ⟨rfl, hb9⟩
       have hba := bt hb8 hb9)
    | (go_at_call 16
       (with_reducible refine (cD _).mono ?_)
       rintro e wb ⟨⟨vb, rfl, hownb⟩, hbb⟩
       have hbc := bt hba hbb
       obtain ⟨Ab, cb, hvb, hcb, hmb, hsb, -⟩ := hownb.form
       rw [HN.out] at hvb hcb
       subst hvb
       have hx2 := (((hs2.next hb4).next hb7).next hb9).next hbb
       have cE := keep_same A2 Ab c2 cb _ _ _ _ hx2 hsb (Nat.le_refl _) (Nat.le_refl _) (by rw [HN.out]; omega)
       rw [HN.out] at cE)
    | (go_at_call 15
       (with_reducible refine cE.mono ?_)
       rintro e wd ⟨rfl, hbd⟩
       have hbe := bt hbc hbd
       have hx1 := ((((hs1.next hb2).next hb4).next hb7).next hb9).next (bt hbb hbd)
       have cG := keep_same A1 A c1 c _ _ _ _ hx1 ((hA.below hbe).more hbe.size) (Nat.le_refl _) (Nat.le_refl _) (by omega))
    | (go_at_call 15
       (with_reducible refine cG.mono ?_)
       rintro e wf ⟨rfl, hbf⟩
       have hbg := bt hbe hbf)
    | (go_at_call 17; (with_reducible refine (rS _).mono ?_); rintro e wh ⟨rfl, hbh⟩; have hbi := bt hbg hbh)
    | (go_at_call 18; (with_reducible refine (rR _).mono ?_); rintro e wi ⟨rfl, rfl⟩)
    | (go_at_call 19; (with_reducible refine (tC _).mono ?_); rintro e wk ⟨rfl, hbk⟩; have hbl := bt hbi hbk)
    | (go_at_call 20; (with_reducible refine (tR _).mono ?_); rintro e wl ⟨rfl, rfl⟩)
    | (go_at_call 21; (with_reducible refine (wakes_any hV hC _ (hT.next hbl)).mono ?_); rintro e wn ⟨rfl, hbn⟩; have hbo := bt hbl hbn))
  go_ret
  exact ⟨rfl, hbo⟩

set_option maxHeartbeats 2000000 in
set_option maxRecDepth 100000 in
theorem le_no_some (hV : ValidOk) (hC : CloneOk) (s : ByteArray) (A : Option Addr) (c : Nat) (l : List UInt8) (n : Int) (w : World) (hs : s.size ≤ 400) (hm : l.length ≤ 400) (hT : Tabs w) (hA : Sl w w.heap.size A l)
    (S C : ByteArray) (K : Int) (hK : 0 < K) (E : Int) (hE : labE s.data.toList = E) (hE0 : E ≠ 0)
    (cR : ∀ (A : Option Addr) (c B : Nat) (W : World), Tabs W → Sl W B A l → l.length ≤ c → c ≤ maxLen → Calls Tryd.prog 11 #[.slice A l.length c] W fun e w' => e = .returned (.tuple #[.string S, .int .i64 K, .int .i64 0]) ∧ Below W.heap.size W w')
    (cRR : ∀ (B : Nat) (W : World), Sl W B A l → Calls Tryd.prog 13 #[.slice A l.length c] W fun e w' => e = .returned (.tuple #[.string S, .int .i64 K]) ∧ Below W.heap.size W w')
    (tC : ∀ W : World, Calls Tryd.prog 19 #[.string s, .int .i64 n] W fun e w' => e = .returned (.string C) ∧ Below W.heap.size W w')
    (tR : ∀ W : World, Calls Tryd.prog 20 #[.string s, .int .i64 n] W fun e w' => e = .returned (.string C) ∧ W = w') :
    Calls Tryd.prog 3 #[.string s, .int .i64 n, .slice A l.length c] w fun e w' => e = .returned (.bool true) ∧ Below w.heap.size w w' := by
  have hi : ¬ (400 : Int) < (s.size : Int) := by omega
  have hj : ¬ (400 : Int) < (l.length : Int) := by omega
  have cB := fun W hW => bytes_not hV s W (by omega) hW (by rw [hE]; exact hE0)
  rw [hE] at cB
  have k1 : (E != 0) = true := bne_iff_ne.2 hE0
  have k2 : (E == 0) = false := beq_eq_false_iff_ne.2 hE0
  have cL := fun W => ref_label s W (by omega)
  have cC := fun W hW => check_any hV s W (by omega) hW
  rw [hE] at cL cC
  clear hE
  have rS := fun W => runes_any s W (by omega)
  have rR := fun W => ref_runes s W (by omega)
  generalize (toks s.data.toList).length = N at rS rR
  go_enter Tryd.func3, Tryd.ntmps3
  go_wp2_with (first
    | (go_at_call 9
       (with_reducible refine (twin_any _ _ _ _ _ hA (by omega)).mono ?_)
       rintro e w1 ⟨⟨v1, rfl, hown1⟩, hb1⟩
       obtain ⟨A1, c1, hv1, hc1, hm1, hs1, -⟩ := hown1.form
       subst hv1)
    | (go_at_call 10
       (with_reducible refine (cB _ (hT.next hb1)).mono ?_)
       rintro e w2 ⟨rfl, hb2⟩
       have hb3 := bt hb1 hb2)
    | (go_at_call 11
       (with_reducible refine (cR _ _ _ _ (hT.next hb3) (hs1.next hb2) hc1 hm1).mono ?_)
       rintro e w4 ⟨rfl, hb4⟩
       have hb5 := bt hb3 hb4)
    | (go_at_call 12
       (with_reducible refine (cL _).mono ?_)
       rintro e w6 ⟨rfl, rfl⟩)
    | (go_at_call 13
       (with_reducible refine (cRR _ _ (hA.below hb5)).mono ?_)
       rintro e w7 ⟨rfl, hb7⟩
       have hb8 := bt hb5 hb7)
    | (go_at_call 14
       (with_reducible refine (cC _ (hT.next hb8)).mono ?_)
       rintro e w9 ⟨rfl, hb9⟩
       have hba := bt hb8 hb9)
    | (go_at_call 15
       have hbe := hba
       have hx1 := (((hs1.next hb2).next hb4).next hb7).next hb9
       have cG := keep_same A1 A c1 c _ _ _ _ hx1 ((hA.below hbe).more hbe.size) (Nat.le_refl _) (Nat.le_refl _) (by omega)
       (with_reducible refine cG.mono ?_)
       rintro e wf ⟨rfl, hbf⟩
       have hbg := bt hbe hbf)
    | (go_at_call 17; (with_reducible refine (rS _).mono ?_); rintro e wh ⟨rfl, hbh⟩; have hbi := bt hbg hbh)
    | (go_at_call 18; (with_reducible refine (rR _).mono ?_); rintro e wi ⟨rfl, rfl⟩)
    | (go_at_call 19; (with_reducible refine (tC _).mono ?_); rintro e wk ⟨rfl, hbk⟩; have hbl := bt hbi hbk)
    | (go_at_call 20; (with_reducible refine (tR _).mono ?_); rintro e wl ⟨rfl, rfl⟩)
    | (go_at_call 21; (with_reducible refine (wakes_any hV hC _ (hT.next hbl)).mono ?_); rintro e wn ⟨rfl, hbn⟩; have hbo := bt hbl hbn))
  go_ret
  exact ⟨rfl, hbo⟩

set_option maxHeartbeats 2000000 in
set_option maxRecDepth 100000 in
theorem le_no_none (hV : ValidOk) (hC : CloneOk) (s : ByteArray) (A : Option Addr) (c : Nat) (l : List UInt8) (n : Int) (w : World) (hs : s.size ≤ 400) (hm : l.length ≤ 400) (hT : Tabs w) (hA : Sl w w.heap.size A l)
    (S C : ByteArray) (E : Int) (hE : labE s.data.toList = E) (hE0 : E ≠ 0)
    (cR : ∀ (A : Option Addr) (c B : Nat) (W : World), Tabs W → Sl W B A l → l.length ≤ c → c ≤ maxLen → Calls Tryd.prog 11 #[.slice A l.length c] W fun e w' => e = .returned (.tuple #[.string S, .int .i64 0, .int .i64 4]) ∧ Below W.heap.size W w')
    (cRR : ∀ (B : Nat) (W : World), Sl W B A l → Calls Tryd.prog 13 #[.slice A l.length c] W fun e w' => e = .returned (.tuple #[.string S, .int .i64 0]) ∧ Below W.heap.size W w')
    (tC : ∀ W : World, Calls Tryd.prog 19 #[.string s, .int .i64 n] W fun e w' => e = .returned (.string C) ∧ Below W.heap.size W w')
    (tR : ∀ W : World, Calls Tryd.prog 20 #[.string s, .int .i64 n] W fun e w' => e = .returned (.string C) ∧ W = w') :
    Calls Tryd.prog 3 #[.string s, .int .i64 n, .slice A l.length c] w fun e w' => e = .returned (.bool true) ∧ Below w.heap.size w w' := by
  have hi : ¬ (400 : Int) < (s.size : Int) := by omega
  have hj : ¬ (400 : Int) < (l.length : Int) := by omega
  have cB := fun W hW => bytes_not hV s W (by omega) hW (by rw [hE]; exact hE0)
  rw [hE] at cB
  have k1 : (E != 0) = true := bne_iff_ne.2 hE0
  have k2 : (E == 0) = false := beq_eq_false_iff_ne.2 hE0
  have cL := fun W => ref_label s W (by omega)
  have cC := fun W hW => check_any hV s W (by omega) hW
  rw [hE] at cL cC
  clear hE
  have rS := fun W => runes_any s W (by omega)
  have rR := fun W => ref_runes s W (by omega)
  generalize (toks s.data.toList).length = N at rS rR
  go_enter Tryd.func3, Tryd.ntmps3
  go_wp2_with (first
    | (go_at_call 9
       (with_reducible refine (twin_any _ _ _ _ _ hA (by omega)).mono ?_)
       rintro e w1 ⟨⟨v1, rfl, hown1⟩, hb1⟩
       obtain ⟨A1, c1, hv1, hc1, hm1, hs1, -⟩ := hown1.form
       subst hv1)
    | (go_at_call 10
       (with_reducible refine (cB _ (hT.next hb1)).mono ?_)
       rintro e w2 ⟨rfl, hb2⟩
       have hb3 := bt hb1 hb2)
    | (go_at_call 11
       (with_reducible refine (cR _ _ _ _ (hT.next hb3) (hs1.next hb2) hc1 hm1).mono ?_)
       rintro e w4 ⟨rfl, hb4⟩
       have hb5 := bt hb3 hb4)
    | (go_at_call 12
       (with_reducible refine (cL _).mono ?_)
       rintro e w6 ⟨rfl, rfl⟩)
    | (go_at_call 13
       (with_reducible refine (cRR _ _ (hA.below hb5)).mono ?_)
       rintro e w7 ⟨rfl, hb7⟩
       have hb8 := bt hb5 hb7)
    | (go_at_call 14
       (with_reducible refine (cC _ (hT.next hb8)).mono ?_)
       rintro e w9 ⟨rfl, hb9⟩
       have hba := bt hb8 hb9)
    | (go_at_call 15
       have hbe := hba
       have hx1 := (((hs1.next hb2).next hb4).next hb7).next hb9
       have cG := keep_same A1 A c1 c _ _ _ _ hx1 ((hA.below hbe).more hbe.size) (Nat.le_refl _) (Nat.le_refl _) (by omega)
       (with_reducible refine cG.mono ?_)
       rintro e wf ⟨rfl, hbf⟩
       have hbg := bt hbe hbf)
    | (go_at_call 17; (with_reducible refine (rS _).mono ?_); rintro e wh ⟨rfl, hbh⟩; have hbi := bt hbg hbh)
    | (go_at_call 18; (with_reducible refine (rR _).mono ?_); rintro e wi ⟨rfl, rfl⟩)
    | (go_at_call 19; (with_reducible refine (tC _).mono ?_); rintro e wk ⟨rfl, hbk⟩; have hbl := bt hbi hbk)
    | (go_at_call 20; (with_reducible refine (tR _).mono ?_); rintro e wl ⟨rfl, rfl⟩)
    | (go_at_call 21; (with_reducible refine (wakes_any hV hC _ (hT.next hbl)).mono ?_); rintro e wn ⟨rfl, hbn⟩; have hbo := bt hbl hbn))
  go_ret
  exact ⟨rfl, hbo⟩

/-- What Read and the document's reader answer of any bytes: the same. -/
theorem read_both (hV : ValidOk) (l : List UInt8) (hl : l.length ≤ 400) :
    ((∀ (A : Option Addr) (c B : Nat) (W : World), Tabs W → Sl W B A l → l.length ≤ c → c ≤ maxLen → Calls Tryd.prog 11 #[.slice A l.length c] W fun e w' => e = .returned (.tuple #[.string ⟨#[]⟩, .int .i64 0, .int .i64 4]) ∧ Below W.heap.size W w') ∧
     (∀ (A : Option Addr) (c B : Nat) (W : World), Sl W B A l → l.length ≤ c → c ≤ maxLen → Calls Tryd.prog 13 #[.slice A l.length c] W fun e w' => e = .returned (.tuple #[.string ⟨#[]⟩, .int .i64 0]) ∧ Below W.heap.size W w')) ∨
    ∃ (S : ByteArray) (K : Int), 0 < K ∧
     (∀ (A : Option Addr) (c B : Nat) (W : World), Tabs W → Sl W B A l → l.length ≤ c → c ≤ maxLen → Calls Tryd.prog 11 #[.slice A l.length c] W fun e w' => e = .returned (.tuple #[.string S, .int .i64 K, .int .i64 0]) ∧ Below W.heap.size W w') ∧
     (∀ (A : Option Addr) (c B : Nat) (W : World), Sl W B A l → l.length ≤ c → c ≤ maxLen → Calls Tryd.prog 13 #[.slice A l.length c] W fun e w' => e = .returned (.tuple #[.string S, .int .i64 K]) ∧ Below W.heap.size W w') := by
  cases l with
  | nil => exact .inl ⟨fun A c B W _ _ _ _ => read_empty A c W, fun A c B W _ _ _ => refread_empty A c W⟩
  | cons n r =>
    by_cases hn : r.length < n.toNat
    · exact .inl ⟨fun A c B W _ h _ _ => read_short A c B n r W h hn, fun A c B W h _ _ => refread_short A c B n r W h hn⟩
    · have hn' : n.toNat ≤ r.length := by omega
      have e : ((⟨(r.take n.toNat).toArray⟩ : ByteArray)).data.toList = r.take n.toNat := rfl
      have hsz : ((⟨(r.take n.toNat).toArray⟩ : ByteArray)).size = n.toNat := by rw [← size_list, e, List.length_take]; omega
      have uniq : ∀ X : ByteArray, X.data.toList = r.take n.toNat → X = ⟨(r.take n.toNat).toArray⟩ := by
        intro X hX
        apply ByteArray.ext
        apply Array.ext'
        rw [hX]
      by_cases hE : labE (r.take n.toNat) = 0
      · refine .inr ⟨⟨(r.take n.toNat).toArray⟩, 1 + (n.toNat : Int), by omega, fun A c B W hW h hc hm => ?_, fun A c B W h hc hm => ?_⟩
        · refine (read_any hV A c B n r W hW h (by simpa using hc) hm hn').mono ?_
          rintro x w' ⟨X, hX, hx, hb⟩
          rw [if_pos hE, uniq X hX] at hx
          exact ⟨hx, hb⟩
        · refine (refread_any A c B n r W h (by simpa using hc) hm hn').mono ?_
          rintro x w' ⟨X, hX, hx, hb⟩
          rw [if_pos hE, uniq X hX, hsz] at hx
          exact ⟨hx, hb⟩
      · refine .inl ⟨fun A c B W hW h hc hm => ?_, fun A c B W h hc hm => ?_⟩
        · refine (read_any hV A c B n r W hW h (by simpa using hc) hm hn').mono ?_
          rintro x w' ⟨X, hX, hx, hb⟩
          rw [if_neg hE] at hx
          exact ⟨hx, hb⟩
        · refine (refread_any A c B n r W h (by simpa using hc) hm hn').mono ?_
          rintro x w' ⟨X, hX, hx, hb⟩
          rw [if_neg hE] at hx
          exact ⟨hx, hb⟩

theorem labelExact_law (hV : ValidOk) (hC : CloneOk) (s : ByteArray) (n : Int) (A : Option Addr) (c : Nat) (l : List UInt8) (w : World) (hs : s.size ≤ maxLen) (hm : l.length ≤ c) (hc : c ≤ maxLen) (hT : Tabs w) (hA : Sl w w.heap.size A l) :
    Calls Tryd.prog 3 #[.string s, .int .i64 n, .slice A l.length c] w fun e w' => e = .returned (.bool true) ∧ Below w.heap.size w w' := by
  by_cases h : 400 < s.size ∨ 400 < l.length
  · exact le_long s A c l.length n w h hs (Nat.le_trans hm hc)
  · have h1 : s.size ≤ 400 := by omega
    have h2 : l.length ≤ 400 := by omega
    obtain ⟨C, tC, tR⟩ : ∃ C : ByteArray, (∀ W : World, Calls Tryd.prog 19 #[.string s, .int .i64 n] W fun e w' => e = .returned (.string C) ∧ Below W.heap.size W w') ∧ (∀ W : World, Calls Tryd.prog 20 #[.string s, .int .i64 n] W fun e w' => e = .returned (.string C) ∧ W = w') := by
      by_cases hn : n < 0
      · exact ⟨⟨#[]⟩, fun W => cut_minus n s W hn, fun W => ref_cut_minus n s W hn⟩
      · obtain ⟨N, rfl⟩ : ∃ N : Nat, n = (N : Int) := ⟨n.toNat, by omega⟩
        exact ⟨cutS s N, fun W => cut_any hC s N W (by omega), fun W => ref_cut s N W (by omega)⟩
    rcases read_both hV l h2 with ⟨k1, k2⟩ | ⟨S, K, hK, k1, k2⟩
    · by_cases hE : labE s.data.toList = 0
      · exact le_ok_none hV hC s A c l n w h1 h2 hT hA ⟨#[]⟩ C hE k1 (fun B W hW => k2 A c B W hW hm hc) tC tR
      · exact le_no_none hV hC s A c l n w h1 h2 hT hA ⟨#[]⟩ C _ rfl hE k1 (fun B W hW => k2 A c B W hW hm hc) tC tR
    · by_cases hE : labE s.data.toList = 0
      · exact le_ok_some hV hC s A c l n w h1 h2 hT hA S C K hK hE k1 (fun B W hW => k2 A c B W hW hm hc) tC tR
      · exact le_no_some hV hC s A c l n w h1 h2 hT hA S C K hK _ rfl hE k1 (fun B W hW => k2 A c B W hW hm hc) tC tR
end Go.Proofs.YtmdimngihpbcnaaDoor.lbl
