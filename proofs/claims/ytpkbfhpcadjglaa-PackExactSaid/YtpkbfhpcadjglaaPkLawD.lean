/-
  The law PackExact, walked: it returns true for every input. No condition.
-/
import Derived.Test.YtpkbfhpcadjglaaPkLawC
import Derived.Deep.CutRange
import Derived.Deep.CutBlock
namespace Go.Proofs.Ytpkbfhpcadjglaa.pck
open Go.RowKit Go.Lib
open Classical

theorem w64 (x : Int) (h1 : 0 ≤ x) (h2 : x < 4294967296) : wrap64 x = x := by unfold wrap64; omega
/-- What Put answers. -/
def PutR (n s : Int) (l : List UInt8) (v : Value) (k : Int) (w : World) : Prop :=
  (∃ z m : Nat, n = m ∧ s = z ∧ Sz z ∧ m < 256 ^ z ∧ k = 0 ∧ Own w 0 5 v (l ++ le z m)) ∨ (¬ Fits n s ∧ k = 1 ∧ v = .slice none 0 0)
theorem PutR.below {n s : Int} {l : List UInt8} {v : Value} {k : Int} {w w' : World} (h : PutR n s l v k w) (hb : Below w.heap.size w w') : PutR n s l v k w' := by
  rcases h with ⟨z, m, h1, h2, h3, h4, h5, h6⟩ | h
  · exact .inl ⟨z, m, h1, h2, h3, h4, h5, h6.below hb⟩
  · exact .inr h
/-- What Get answers. -/
def GetR (s : Int) (l : List UInt8) (m : Int) (v : Value) (k : Int) (w : World) : Prop :=
  (∃ z : Nat, s = z ∧ Sz z ∧ z ≤ l.length ∧ m = (num (l.take z) : Nat) ∧ k = 0 ∧ Own w 0 5 v (l.drop z)) ∨ (∃ z : Nat, s = z ∧ Sz z ∧ l.length < z ∧ m = 0 ∧ k = 4 ∧ v = .slice none 0 0) ∨ (¬ (s = 1 ∨ s = 2 ∨ s = 4) ∧ m = 0 ∧ k = 1 ∧ v = .slice none 0 0)
theorem GetR.below {s : Int} {l : List UInt8} {m : Int} {v : Value} {k : Int} {w w' : World} (h : GetR s l m v k w) (hb : Below w.heap.size w w') : GetR s l m v k w' := by
  rcases h with ⟨z, h1, h2, h3, h4, h5, h6⟩ | h | h
  · exact .inl ⟨z, h1, h2, h3, h4, h5, h6.below hb⟩
  · exact .inr (.inl h)
  · exact .inr (.inr h)
/-- What Part answers. -/
def PartR (l : List UInt8) (v : Value) (k : Int) (w : World) : Prop :=
  (l.length ≤ 255 ∧ k = 0 ∧ Own w 0 5 v (le 1 l.length ++ l)) ∨ (255 < l.length ∧ k = 2 ∧ v = .slice none 0 0)
theorem PartR.below {l : List UInt8} {v : Value} {k : Int} {w w' : World} (h : PartR l v k w) (hb : Below w.heap.size w w') : PartR l v k w' := by
  rcases h with ⟨h1, h2, h3⟩ | h
  · exact .inl ⟨h1, h2, h3.below hb⟩
  · exact .inr h
/-- What Unpart answers. -/
def UnR (l : List UInt8) (v u : Value) (k : Int) (w : World) : Prop :=
  (∃ m : Nat, num (l.take 1) = m ∧ 1 + m ≤ l.length ∧ k = 0 ∧ Own w 0 5 v ((l.drop 1).take m) ∧ Own w 0 5 u ((l.drop 1).drop m)) ∨ (l.length < 1 + num (l.take 1) ∧ k = 4 ∧ v = .slice none 0 0 ∧ u = .slice none 0 0)
theorem UnR.below {l : List UInt8} {v u : Value} {k : Int} {w w' : World} (h : UnR l v u k w) (hb : Below w.heap.size w w') : UnR l v u k w' := by
  rcases h with ⟨m, h1, h2, h3, h4, h5⟩ | h
  · exact .inl ⟨m, h1, h2, h3, h4.below hb, h5.below hb⟩
  · exact .inr h

section
variable (A : Option Addr) (c N : Nat) (l : List UInt8) (w : World) (hl : l.length = N) (hN : N ≤ 400) (hA : Sl w w.heap.size A l)
include hl hN hA
theorem put_res (n s : Int) : Calls Try.prog 8 #[.slice A N c, .int .i64 n, .int .i64 s] w fun e w' => (∃ v k, e = .returned (.tuple #[v, .int .i64 k]) ∧ PutR n s l v k w') ∧ Below w.heap.size w w' := by
  by_cases hf : Fits n s
  · obtain ⟨z, m, rfl, rfl, hz, hm⟩ := hf
    refine (put_ok z m N A c l w hz hm hl (by omega) hA).mono ?_
    rintro e w' ⟨⟨v, rfl, ho⟩, hb⟩
    exact ⟨⟨v, 0, rfl, .inl ⟨z, m, rfl, rfl, hz, hm, rfl, ho.less (Nat.zero_le _)⟩⟩, hb⟩
  · refine (put_no n s _ w hf).mono ?_
    rintro e w' ⟨rfl, rfl⟩
    exact ⟨⟨_, 1, rfl, .inr ⟨hf, rfl, rfl⟩⟩, Below.refl _ _⟩
theorem get_res (s : Int) (hc : N ≤ c) (hx : c ≤ maxLen) : Calls Try.prog 9 #[.slice A N c, .int .i64 s] w fun e w' => (∃ m v k, e = .returned (.tuple #[.int .i64 m, v, .int .i64 k]) ∧ GetR s l m v k w') ∧ Below w.heap.size w w' := by
  by_cases hs : s = 1 ∨ s = 2 ∨ s = 4
  · obtain ⟨z, rfl⟩ : ∃ z : Nat, s = z := ⟨s.toNat, by omega⟩
    have hz : Sz z := by unfold Sz; omega
    by_cases h : N < z
    · refine (get_short N c z A w hz h).mono ?_
      rintro e w' ⟨rfl, rfl⟩
      exact ⟨⟨0, _, 4, rfl, .inr (.inl ⟨z, rfl, hz, by omega, rfl, rfl, rfl⟩)⟩, Below.refl _ _⟩
    · refine (get_ok z N A c l w hz hl (by omega) hc hx (by omega) hA).mono ?_
      rintro e w' ⟨⟨v, rfl, ho⟩, hb⟩
      exact ⟨⟨_, v, 0, rfl, .inl ⟨z, rfl, hz, by omega, rfl, rfl, ho.less (Nat.zero_le _)⟩⟩, hb⟩
  · refine (get_arg N c s A w hs).mono ?_
    rintro e w' ⟨rfl, rfl⟩
    exact ⟨⟨0, _, 1, rfl, .inr (.inr ⟨hs, rfl, rfl, rfl⟩)⟩, Below.refl _ _⟩
theorem part_res : Calls Try.prog 10 #[.slice A N c] w fun e w' => (∃ v k, e = .returned (.tuple #[v, .int .i64 k]) ∧ PartR l v k w') ∧ Below w.heap.size w w' := by
  by_cases h : 255 < N
  · refine (part_long N c A w h).mono ?_
    rintro e w' ⟨rfl, rfl⟩
    exact ⟨⟨_, 2, rfl, .inr ⟨by omega, rfl, rfl⟩⟩, Below.refl _ _⟩
  · refine (part_ok N A c l w hl (by omega) hA).mono ?_
    rintro e w' ⟨⟨v, rfl, ho⟩, hb⟩
    exact ⟨⟨v, 0, rfl, .inl ⟨by omega, rfl, by rw [hl]; exact ho.less (Nat.zero_le _)⟩⟩, hb⟩
theorem unpart_res (hc : N ≤ c) (hx : c ≤ maxLen) : Calls Try.prog 11 #[.slice A N c] w fun e w' => (∃ v u k, e = .returned (.tuple #[v, u, .int .i64 k]) ∧ UnR l v u k w') ∧ Below w.heap.size w w' := by
  by_cases h : N < 1 + num (l.take 1)
  · refine (unpart_no N A c l w hl h hc hx hA).mono ?_
    rintro e w' ⟨rfl, hb⟩
    exact ⟨⟨_, _, 4, rfl, .inr ⟨by omega, rfl, rfl, rfl⟩⟩, hb⟩
  · refine (unpart_ok N (num (l.take 1)) A c l w hl (by omega) rfl (by omega) hc hx (by omega) hA).mono ?_
    rintro e w' ⟨⟨v, u, rfl, ho, hp⟩, hb⟩
    exact ⟨⟨v, u, 0, rfl, .inl ⟨_, rfl, by omega, rfl, ho.less (Nat.zero_le _), hp.less (Nat.zero_le _)⟩⟩, hb⟩
end

set_option maxRecDepth 100000 in
theorem exact_out (A : Option Addr) (c N : Nat) (n s : Int) (w : World) (h : 400 < N) :
    Calls Try.prog 3 #[.slice A N c, .int .i64 n, .int .i64 s] w fun e w' => e = .returned (.bool true) ∧ Below w.heap.size w w' := by
  have i1 : (400 : Int) < (N : Int) := by omega
  go_enter Try.func3, Try.ntmps3
  go_wp2
  go_ret
  exact ⟨rfl, Below.refl _ _⟩
set_option maxRecDepth 100000 in
set_option maxHeartbeats 4000000 in
theorem exact_go (A : Option Addr) (c N : Nat) (n s : Int) (l : List UInt8) (w : World) (hl : l.length = N) (hN : N ≤ 400) (hc : N ≤ c) (hx : c ≤ maxLen) (hA : Sl w w.heap.size A l) :
    Calls Try.prog 3 #[.slice A N c, .int .i64 n, .int .i64 s] w fun e w' => e = .returned (.bool true) ∧ Below w.heap.size w w' := by
  have i1 : ¬ (400 : Int) < (N : Int) := by omega
  have cT := twin_len A c w.heap.size N l w hl hA (by omega)
  have cP := fun (W : World) (X : Option Addr) (x : Nat) (hX : Sl W W.heap.size X l) => put_res X x N l W hl hN hX n s
  have cG := fun (W : World) (X : Option Addr) (x : Nat) (hX : Sl W W.heap.size X l) (h1 : N ≤ x) (h2 : x ≤ maxLen) => get_res X x N l W hl hN hX s h1 h2
  have cQ := fun (W : World) (X : Option Addr) (x : Nat) (hX : Sl W W.heap.size X l) => part_res X x N l W hl hN hX
  have cU := fun (W : World) (X : Option Addr) (x : Nat) (hX : Sl W W.heap.size X l) (h1 : N ≤ x) (h2 : x ≤ maxLen) => unpart_res X x N l W hl hN hX h1 h2
  have cK := fun (W : World) (X : Option Addr) (x : Nat) (hW : Below w.heap.size w W) (hX : Sl W W.heap.size X l) => same_any N X A x c l W hl hX ((hA.below hW).more hW.size) (by omega)
  have cF := fun W => ref_fits n s W
  generalize hbF : decide (Fits n s) = bF at cF
  have HL := Lib.hid hl
  go_enter Try.func3, Try.ntmps3
  go_upto_if 55 with (first
    | (go_at_call 7
       (with_reducible refine cT.mono ?_)
       rintro e w1 ⟨⟨v1, rfl, hown1⟩, hb1⟩
       obtain ⟨X1, x1, hv1, hq1, hx1, hs1, -⟩ := hown1.form
       rw [HL.out] at hv1 hq1
       subst hv1)
    | (go_at_call 8; (with_reducible refine (cP _ _ _ hs1).mono ?_); rintro e w2 ⟨⟨v2, k2, rfl, r2⟩, hb2⟩; have hb12 := bt hb1 hb2; have hs2 := hs1.next hb2)
    | (go_at_call 9; (with_reducible refine (cG _ _ _ hs2 hq1 hx1).mono ?_); rintro e w3 ⟨⟨m3, v3, k3, rfl, r3⟩, hb3⟩; have hb13 := bt hb12 hb3; have hs3 := hs2.next hb3; have r23 := r2.below hb3)
    | (go_at_call 10; (with_reducible refine (cQ _ _ _ hs3).mono ?_); rintro e w4 ⟨⟨v4, k4, rfl, r4⟩, hb4⟩; have hb14 := bt hb13 hb4; have hs4 := hs3.next hb4; have r24 := r23.below hb4; have r34 := r3.below hb4)
    | (go_at_call 11; (with_reducible refine (cU _ _ _ hs4 hq1 hx1).mono ?_); rintro e w5 ⟨⟨v5, u5, k5, rfl, r5⟩, hb5⟩; have hb15 := bt hb14 hb5; have hs5 := hs4.next hb5; have r25 := r24.below hb5; have r35 := r34.below hb5; have r45 := r4.below hb5)
    | (go_at_call 12; (with_reducible refine (cK _ _ _ hb15 hs5).mono ?_); rintro e w6 ⟨rfl, hb6⟩; have hb16 := bt hb15 hb6; have r26 := r25.below hb6; have r36 := r35.below hb6; have r46 := r45.below hb6; have r56 := r5.below hb6)
    | (go_at_call 13; (with_reducible refine (cF _).mono ?_); rintro e w7 ⟨rfl, rfl⟩))
  clear cT cP cG cQ cU cK cF hown1 r2 r3 r4 r5 r23 r24 r34 r25 r35 r45 hs1 hs2 hs3 hs4 hs5 hb1 hb2 hb3 hb4 hb5 hb6 hb12 hb13 hb14 hb15 hq1 hx1
  have lw := hb16.size
  have cS := fun (W : World) (X Y : Option Addr) (k k' j : Nat) (l : List UInt8) (hl : l.length = j) (hj : j ≤ 1048576) (hX : Sl W W.heap.size X l) (hY : Sl W W.heap.size Y l) => same_any j X Y k k' l W hl hX hY hj
  go_cut [] from 56 (fun wc => Below w6.heap.size w6 wc)
  case first =>
    clear r36 r46 r56
    cases bF with
    | true =>
      have hfit : Fits n s := of_decide_eq_true hbF
      obtain ⟨z, m, rfl, rfl, hz, hm, rfl, ho⟩ := r26.resolve_right fun h => h.1 hfit
      have hM : (l ++ le z m).length = N + z := by rw [List.length_append, le_length, hl]
      have hz4 := hz.le4
      obtain ⟨X2, x2, hv2, -, -, hs2, -⟩ := ho.form
      rw [hM] at hv2
      subst hv2
      have cR := ref_put z m N A c l w6 (by omega) (pow_le hz hm) hl (by omega) ((hA.below hb16).more lw)
      have HM := Lib.hid hM
      have hj : N + z ≤ 1048576 := by omega
      clear r26 hfit hbF hm hz hz4 hM ho hA hl
      generalize l ++ le z m = y at *
      go_wp2_with (first
        | (go_at_call 14; (with_reducible refine cR.mono ?_); rintro e w8 ⟨⟨v8, rfl, hown8⟩, hb8⟩; obtain ⟨X8, k8, hv8, -, -, hs8, -⟩ := hown8.form; rw [HM.out] at hv8; subst hv8; have hs28 := hs2.next hb8)
        | (go_at_call 12; (with_reducible refine (cS _ _ _ _ _ _ _ HM.out hj hs28 hs8).mono ?_); rintro e w9 ⟨rfl, hb9⟩))
      go_meet
      case rel => exact bt hb8 hb9
    | false =>
      have hfit : ¬ Fits n s := of_decide_eq_false hbF
      obtain ⟨-, rfl, rfl⟩ := r26.resolve_left fun ⟨z, m, h1, h2, h3, h4, _⟩ => hfit ⟨z, m, h2, h1, h3, h4⟩
      clear r26 hfit hbF hA hl
      go_wp2
      go_meet
      case rel => exact Below.refl _ _
  case rest =>
    obtain ⟨w7, rfl⟩ : ∃ x, x = wc := ⟨wc, rfl⟩
    have hb17 := bt hb16 hcut
    have r37 := r36.below hcut
    have r47 := r46.below hcut
    have r57 := r56.below hcut
    have lw := hb17.size
    clear hcut hb16 r26 r36 r46 r56
    go_upto_block 0 with fail
    go_cut [] from 56 (fun wc => Below w7.heap.size w7 wc)
    case first =>
      clear r47 r57
      rcases r37 with ⟨z, rfl, hz, hzl, rfl, rfl, ho⟩ | ⟨z, rfl, hz, hzl, rfl, rfl, rfl⟩ | ⟨hs, rfl, rfl, rfl⟩
      · have cZ := fun W => ref_size_ok z hz W
        have hz4 := hz.le4
        have hz1 := hz.pos
        have cR := ref_get z N A c w.heap.size l w7 hz4 hl (by omega) (hA.below hb17)
        obtain ⟨b, off, rfl, -, -⟩ := hA (by omega)
        have hd : Sl w7 w7.heap.size (some ⟨b, off + z, none⟩) (l.drop z) := ((hA.below hb17).more lw).drop z
        have hdl : (l.drop z).length = N - z := by rw [List.length_drop, hl]
        obtain ⟨X2, x2, hv2, -, -, hs2, -⟩ := ho.form
        rw [hdl] at hv2
        subst hv2
        have hd' : c = z → Sl w7 w7.heap.size (some ⟨b, off, none⟩) (l.drop z) := fun h => by
          rw [List.drop_eq_nil_of_le (by omega)]
          exact Sl.nil _ _ _
        have i2 : ¬ (N : Int) < (z : Int) := by omega
        have i3 : (z : Int) ≤ (N : Int) := by omega
        have i4 : (z : Int) ≤ (c : Int) := by omega
        have i5 : (0 : Int) ≤ (z : Int) := by omega
        have hj : N - z ≤ 1048576 := by omega
        have n1 : (((num (l.take z) : Nat) : Int) != ((num (l.take z) : Nat) : Int)) = false := bne_self_eq_false _
        generalize num (l.take z) = y at *
        have HD := Lib.hid hdl
        by_cases hcz : c = z
        · have hd2 := hd' hcz
          subst hcz
          obtain rfl : N = c := by omega
          rw [Nat.sub_self] at *
          clear hd hd' hz hz4 hz1 ho hA hl hdl hc hzl
          go_wp2_with (first
            | (go_at_call 15; (with_reducible refine (cZ _).mono ?_); rintro e w8 ⟨rfl, rfl⟩)
            | (go_at_call 16; (with_reducible refine cR.mono ?_); rintro e w9 ⟨rfl, rfl⟩)
            | (go_at_call 12; (with_reducible refine (cS _ _ _ _ _ _ _ HD.out hj hs2 hd2).mono ?_); rintro e wa ⟨rfl, hba⟩))
          go_meet
          case rel => exact hba
        · have i6 : ¬ (c : Int) = (z : Int) := by omega
          clear hd' hz hz4 hz1 ho hA hl hdl hc hzl
          go_wp2_with (first
            | (go_at_call 15; (with_reducible refine (cZ _).mono ?_); rintro e w8 ⟨rfl, rfl⟩)
            | (go_at_call 16; (with_reducible refine cR.mono ?_); rintro e w9 ⟨rfl, rfl⟩)
            | (go_at_call 12; (with_reducible refine (cS _ _ _ _ _ _ _ HD.out hj hs2 hd).mono ?_); rintro e wa ⟨rfl, hba⟩))
          go_meet
          case rel => exact hba
      · have cZ := fun W => ref_size_ok z hz W
        have i2 : (N : Int) < (z : Int) := by omega
        clear hA hl hz hzl
        go_wp2_with (first
          | (go_at_call 15; (with_reducible refine (cZ _).mono ?_); rintro e w8 ⟨rfl, rfl⟩))
        go_meet
        case rel => exact Below.refl _ _
      · have cZ := fun W => ref_size_no s hs W
        clear hA hl hs
        go_wp2_with (first
          | (go_at_call 15; (with_reducible refine (cZ _).mono ?_); rintro e w8 ⟨rfl, rfl⟩))
        go_meet
        case rel => exact Below.refl _ _
    case rest =>
      obtain ⟨w8, rfl⟩ : ∃ x, x = wc := ⟨wc, rfl⟩
      have hb18 := bt hb17 hcut
      have r48 := r47.below hcut
      have r58 := r57.below hcut
      have lw := hb18.size
      clear hcut hb17 r37 r47 r57
      go_upto_if 124 with fail
      go_cut [] from 125 (fun wc => Below w8.heap.size w8 wc)
      case first =>
        clear r58
        rcases r48 with ⟨h1, rfl, ho⟩ | ⟨h1, rfl, rfl⟩
        · have cR := ref_part N A c l w8 hl (by omega) ((hA.below hb18).more lw)
          rw [hl] at ho h1
          have hM : (le 1 N ++ l).length = N + 1 := by rw [List.length_append, le_length, hl]; omega
          have HM := Lib.hid hM
          obtain ⟨X2, x2, hv2, -, -, hs2, -⟩ := ho.form
          rw [hM] at hv2
          subst hv2
          have i2 : ¬ (255 : Int) < (N : Int) := by omega
          have hj : N + 1 ≤ 1048576 := by omega
          clear hA hl ho hM h1
          generalize le 1 N ++ l = y at *
          go_wp2_with (first
            | (go_at_call 17; (with_reducible refine cR.mono ?_); rintro e w9 ⟨⟨v9, rfl, hown9⟩, hb9⟩; obtain ⟨X9, k9, hv9, -, -, hs9, -⟩ := hown9.form; rw [HM.out] at hv9; subst hv9; have hs29 := hs2.next hb9)
            | (go_at_call 12; (with_reducible refine (cS _ _ _ _ _ _ _ HM.out hj hs29 hs9).mono ?_); rintro e wa ⟨rfl, hba⟩))
          go_meet
          case rel => exact bt hb9 hba
        · rw [hl] at h1
          have i2 : (255 : Int) < (N : Int) := by omega
          clear hA hl h1
          go_wp2
          go_meet
          case rel => exact Below.refl _ _
      case rest =>
        obtain ⟨w9, rfl⟩ : ∃ x, x = wc := ⟨wc, rfl⟩
        have hb19 := bt hb18 hcut
        have r59 := r58.below hcut
        have lw := hb19.size
        clear hcut hb18 r48 r58
        clear lw
        by_cases h0 : N = 0
        · subst h0
          obtain ⟨-, rfl, rfl, rfl⟩ := r59.resolve_left fun ⟨m, _, h2, _⟩ => by omega
          clear hA hl hc hx r59
          go_wp2_with (first
            | (go_at_call 18; (with_reducible refine (wakes_any _).mono ?_); rintro e wd ⟨rfl, hbd⟩))
          go_ret
          exact ⟨rfl, bt hb19 hbd⟩
        · obtain ⟨b, off, rfl, -, hcl⟩ := (hA.below hb19) (by omega)
          have g0 := hcl 0 (by omega)
          have hn1 : num (l.take 1) = l[0].toNat := by
            rw [num_one (l.take 1) (by rw [List.length_take]; omega)]
            simp
          have hx0 := l[0].toNat_lt
          unfold by8 at g0
          rw [Nat.add_zero] at g0
          generalize l[0].toNat = a at *
          have z0 : ((N : Int) == 0) = false := beq_eq_false_iff_ne.2 (by omega)
          rcases r59 with ⟨m, hm, hmn, rfl, ho, hp⟩ | ⟨h1, rfl, rfl, rfl⟩
          · obtain rfl : m = a := by omega
            have i2 : ¬ (N : Int) < 1 + (m : Int) := by omega
            obtain ⟨q, hq⟩ : ∃ q, 1 + m = q := ⟨_, rfl⟩
            have e1 : 1 + (m : Int) = (q : Int) := by omega
            have i3 : ¬ (N : Int) < (q : Int) := by omega
            have E2 : Hid (wrap64 (q : Int) = (q : Int)) := w64 _ (by omega) (by omega)
            have e3 : (1 : Int) ≤ (q : Int) := by omega
            have e4 : (q : Int) ≤ (N : Int) := by omega
            have e5 : (q : Int) ≤ (c : Int) := by omega
            have e6 : (1 : Int) ≤ (c : Int) := by omega
            have e7 : (0 : Int) ≤ (q : Int) := by omega
            have hd := (hA.below hb19).more hb19.size
            have l1 : ((l.drop 1).take m).length = q - 1 := by rw [List.length_take, List.length_drop]; omega
            have l2 : ((l.drop 1).drop m).length = N - q := by rw [List.length_drop, List.length_drop]; omega
            have d1 : Sl w9 w9.heap.size (some ⟨b, off + 1, none⟩) ((l.drop 1).take m) := (hd.drop 1).take m
            have d2 : Sl w9 w9.heap.size (some ⟨b, off + q, none⟩) ((l.drop 1).drop m) := by
              have := hd.drop q
              rwa [← hq, ← List.drop_drop, hq] at this
            have d1' : c = 1 → ∀ W, Sl W W.heap.size (some ⟨b, off, none⟩) ((l.drop 1).take m) := fun h W => by
              rw [List.eq_nil_of_length_eq_zero (by omega : ((l.drop 1).take m).length = 0)]
              exact Sl.nil _ _ _
            have d2' : c = q → ∀ W, Sl W W.heap.size (some ⟨b, off, none⟩) ((l.drop 1).drop m) := fun h W => by
              rw [List.eq_nil_of_length_eq_zero (by omega : ((l.drop 1).drop m).length = 0)]
              exact Sl.nil _ _ _
            obtain ⟨X5, x5, hv5, -, -, hs5, -⟩ := ho.form
            obtain ⟨X6, x6, hv6, -, -, hs6, -⟩ := hp.form
            rw [l1] at hv5
            rw [l2] at hv6
            subst hv5 hv6
            have L1 := Lib.hid l1
            have hblt : b < w9.heap.size := World.block_lt_of_cell? w9 ⟨b, off, none⟩ g0
            have L2 := Lib.hid l2
            have j1 : q - 1 ≤ 1048576 := by omega
            have j2 : N - q ≤ 1048576 := by omega
            clear hcl hn1 l1 l2 ho hp hd hA hl hm hmn i2
            generalize (l.drop 1).take m = p1 at *
            generalize (l.drop 1).drop m = p2 at *
            by_cases hc1 : c = 1
            · obtain rfl : N = 1 := by omega
              obtain rfl : q = 1 := by omega
              obtain rfl : m = 0 := by omega
              have L1' : p1.length = 0 := by have := L1.out; omega
              have L2' : p2.length = 0 := by have := L2.out; omega
              have j1' : 0 ≤ 1048576 := by omega
              have j2' : 0 ≤ 1048576 := by omega
              replace d1' := d1' hc1
              replace d2' := d2' hc1
              subst hc1
              clear d1 d2 hc hx e1 e3 e4 e5 e6 e7
              simp only [Nat.sub_self] at *
              go_wp2_with (first
                | (go_at_call 12; (with_reducible refine (cS _ _ _ _ _ _ _ L1' j1' hs5 (d1' _)).mono ?_); rintro e wa ⟨rfl, hba⟩; have hsa := hs6.next hba; have ga := (hba.cell (p := ⟨b, off, none⟩) hblt).trans g0)
                | (go_at_call 12; (with_reducible refine (cS _ _ _ _ _ _ _ L2' j2' hsa (d2' _)).mono ?_); rintro e wb ⟨rfl, hbb⟩)
                | (go_at_call 18; (with_reducible refine (wakes_any _).mono ?_); rintro e wd ⟨rfl, hbd⟩))
              go_ret
              exact ⟨rfl, bt hb19 (bt hba (bt hbb hbd))⟩
            · have k1 : ¬ (c : Int) = 1 := by omega
              by_cases hcq : c = q
              · have L2' : p2.length = 0 := by have := L2.out; omega
                have L1' := L1.out
                have j1' := j1
                have j2' : 0 ≤ 1048576 := by omega
                replace d2' := d2' hcq
                obtain rfl : c = q := hcq
                obtain rfl : N = c := by omega
                clear d1' d2 hc hx
                simp only [Nat.sub_self] at *
                go_wp2_with (first
                  | (go_at_call 12; (with_reducible refine (cS _ _ _ _ _ _ _ L1' j1' hs5 d1).mono ?_); rintro e wa ⟨rfl, hba⟩; have hsa := hs6.next hba; have ga := (hba.cell (p := ⟨b, off, none⟩) hblt).trans g0)
                  | (go_at_call 12; (with_reducible refine (cS _ _ _ _ _ _ _ L2' j2' hsa (d2' _)).mono ?_); rintro e wb ⟨rfl, hbb⟩)
                  | (go_at_call 18; (with_reducible refine (wakes_any _).mono ?_); rintro e wd ⟨rfl, hbd⟩))
                go_ret
                exact ⟨rfl, bt hb19 (bt hba (bt hbb hbd))⟩
              · have k2 : ¬ (c : Int) = (q : Int) := by omega
                clear d1' d2'
                go_wp2_with (first
                  | (go_at_call 12; (with_reducible refine (cS _ _ _ _ _ _ _ L1.out j1 hs5 d1).mono ?_); rintro e wa ⟨rfl, hba⟩; have hsa := hs6.next hba; have dsa := d2.next hba; have ga := (hba.cell (p := ⟨b, off, none⟩) hblt).trans g0)
                  | (go_at_call 12; (with_reducible refine (cS _ _ _ _ _ _ _ L2.out j2 hsa dsa).mono ?_); rintro e wb ⟨rfl, hbb⟩)
                  | (go_at_call 18; (with_reducible refine (wakes_any _).mono ?_); rintro e wd ⟨rfl, hbd⟩))
                go_ret
                exact ⟨rfl, bt hb19 (bt hba (bt hbb hbd))⟩
          · have i2 : (N : Int) < 1 + (a : Int) := by omega
            clear hA hl hc hx hcl hn1 h1
            go_wp2_with (first
              | (go_at_call 18; (with_reducible refine (wakes_any _).mono ?_); rintro e wd ⟨rfl, hbd⟩))
            go_ret
            exact ⟨rfl, bt hb19 hbd⟩
theorem packExact_law (A : Option Addr) (c : Nat) (n s : Int) (l : List UInt8) (w : World) (hc : l.length ≤ c) (hx : c ≤ maxLen) (hA : Sl w w.heap.size A l) :
    Calls Try.prog 3 #[.slice A l.length c, .int .i64 n, .int .i64 s] w fun e w' => e = .returned (.bool true) ∧ Below w.heap.size w w' := by
  by_cases h : 400 < l.length
  · exact exact_out A c _ n s w h
  · exact exact_go A c _ n s l w rfl (by omega) hc hx hA
end Go.Proofs.Ytpkbfhpcadjglaa.pck
