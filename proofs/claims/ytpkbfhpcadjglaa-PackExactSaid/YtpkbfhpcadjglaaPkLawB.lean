/-
  The law PackBack, walked: it returns true for every input. No condition.
-/
import Derived.Test.YtpkbfhpcadjglaaPkLawA
namespace Go.Proofs.Ytpkbfhpcadjglaa.pck
open Go.RowKit Go.Lib

theorem same_any (n : Nat) (X Y : Option Addr) (k k' : Nat) (l : List UInt8) (W : World) (hl : l.length = n) (hX : Sl W W.heap.size X l) (hY : Sl W W.heap.size Y l) (hn : n ≤ 1048576) :
    Calls Try.prog 12 #[.slice X n k, .slice Y n k'] W fun e w' => e = .returned (.bool true) ∧ Below W.heap.size W w' := by
  subst hl
  have := keep_any X Y k k' _ _ l l W hX hY (Nat.le_refl _) (Nat.le_refl _) hn
  rwa [decide_eq_true rfl] at this
theorem twin_len (A : Option Addr) (c B n : Nat) (l : List UInt8) (w : World) (hl : l.length = n) (hA : Sl w B A l) (hn : n ≤ 1048576) :
    Calls Try.prog 7 #[.slice A n c] w fun e w' => One w.heap.size l e w' ∧ Below w.heap.size w w' := by
  subst hl
  exact twin_any A c B l w hA hn
theorem back_out (A A' : Option Addr) (c c' m n : Nat) (x s : Int) (w : World) (h : 255 < m ∨ 400 < n) :
    Calls Try.prog 5 #[.slice A m c, .int .i64 x, .int .i64 s, .slice A' n c'] w fun e w' => e = .returned (.bool true) ∧ Below w.heap.size w w' := by
  by_cases h1 : 255 < m
  · have i1 : (255 : Int) < (m : Int) := by omega
    clear h
    go_enter Try.func5, Try.ntmps5
    go_wp2
    go_ret
    exact ⟨rfl, Below.refl _ _⟩
  · have i1 : ¬ (255 : Int) < (m : Int) := by omega
    have i2 : (400 : Int) < (n : Int) := by omega
    clear h
    go_enter Try.func5, Try.ntmps5
    go_wp2
    go_ret
    exact ⟨rfl, Below.refl _ _⟩

/-- The part of bytes, and what stands behind it. -/
theorem part_bytes (n : Nat) (l more : List UInt8) (hln : l.length = n) (h1 : n ≤ 255) :
    (le 1 n ++ l).length = n + 1 ∧ (le 1 n ++ l ++ more).length = n + 1 + more.length ∧ num ((le 1 n ++ l ++ more).take 1) = n ∧ ((le 1 n ++ l ++ more).drop 1).take n = l ∧ ((le 1 n ++ l ++ more).drop 1).drop n = more := by
  have hd : (le 1 n ++ l ++ more).drop 1 = l ++ more := by rw [le_one]; rfl
  have ht : (le 1 n ++ l ++ more).take 1 = le 1 n := by rw [le_one]; rfl
  refine ⟨?_, ?_, ?_, ?_, ?_⟩
  · rw [List.length_append, le_length]; omega
  · rw [List.length_append, List.length_append, le_length]; omega
  · rw [ht, num_le 1 n (by omega)]
  · rw [hd, ← hln, List.take_left]
  · rw [hd, ← hln, List.drop_left]
set_option maxHeartbeats 2000000 in
theorem back_fits (A A' : Option Addr) (c c' n nm k m : Nat) (l more : List UInt8) (w : World) (hln : l.length = n) (hlm : more.length = nm) (h1 : n ≤ 255) (h2 : nm ≤ 400) (hk : Sz k) (hm : m < 256 ^ k) (hA : Sl w w.heap.size A l) (hA' : Sl w w.heap.size A' more) :
    Calls Try.prog 5 #[.slice A n c, .int .i64 m, .int .i64 k, .slice A' nm c'] w fun e w' => e = .returned (.bool true) ∧ Below w.heap.size w w' := by
  have hp := hk.pos
  have h4 := hk.le4
  have i1 : ¬ (255 : Int) < (n : Int) := by omega
  have i2 : ¬ (400 : Int) < (nm : Int) := by omega
  have c1 := put_ok k m n A c l w hk hm hln (by omega) hA
  have hN : (l ++ le k m).length = n + k := by rw [List.length_append, hln, le_length]
  have ht : (l ++ le k m).take n = l := by rw [← hln, List.take_left]
  have hd : (l ++ le k m).drop n = le k m := by rw [← hln, List.drop_left]
  have cK := fun (W : World) (X : Option Addr) (q : Nat) (hW : Below w.heap.size w W) (hX : Sl W W.heap.size X (l ++ le k m)) => same_any n X A q c l W hln (by have := hX.take n; rwa [ht] at this) ((hA.below hW).more hW.size) (by omega)
  have cT := fun (W : World) (b q : Nat) (hX : Sl W W.heap.size (some ⟨b, 0, none⟩) (l ++ le k m)) => twin_len (some ⟨b, n, none⟩) q W.heap.size (n + k - n) (le k m) W (by rw [le_length]; omega) (by have := hX.drop n; rwa [hd, Nat.zero_add] at this) (by omega)
  have cA := fun (W : World) (v : Value) (hv : Own W W.heap.size 5 v (le k m)) => hv
  have hG := num_le k m hm
  have cG := fun (W : World) (X : Option Addr) (q : Nat) (hX : Sl W W.heap.size X (le k m ++ more)) (h1 : k + nm ≤ q) (h2 : q ≤ maxLen) => get_ok k (k + nm) X q (le k m ++ more) W hk (by rw [List.length_append, le_length, hlm]) (by omega) h1 h2 (by omega) hX
  have ht2 : (le k m ++ more).take k = le k m := by
    have := List.take_left (l₁ := le k m) (l₂ := more)
    rwa [le_length] at this
  have hd2 : (le k m ++ more).drop k = more := by
    have := List.drop_left (l₁ := le k m) (l₂ := more)
    rwa [le_length] at this
  unfold Got at cG
  rw [ht2, hG, hd2] at cG
  have hsrc : ∀ W, Below w.heap.size w W → Src Try.prog 1 22 (.slice A' nm c') more.length (cells8 more) W := fun W hW => by
    subst hlm
    exact (hA'.below hW).src Try.underlying22 c'
  have cM := fun (W : World) (X : Option Addr) (q : Nat) (hW : Below w.heap.size w W) (hX : Sl W W.heap.size X more) => same_any nm X A' q c' more W hlm hX ((hA'.below hW).more hW.size) (by omega)
  have cL := fun (W : World) (X : Option Addr) (q : Nat) (hW : Below w.heap.size w W) (hX : Sl W W.heap.size X l) => same_any n X A q c l W hln hX ((hA.below hW).more hW.size) (by omega)
  have cP := fun (W : World) (hW : Below w.heap.size w W) => part_ok n A c l W hln h1 ((hA.below hW).more hW.size)
  obtain ⟨p1, p2, p3, p4, p5⟩ := part_bytes n l more hln h1
  have cQ := fun (W : World) (X : Option Addr) (q : Nat) (hX : Sl W W.heap.size X (le 1 n ++ l)) => twin_len X q W.heap.size (n + 1) (le 1 n ++ l) W p1 hX (by omega)
  have cU := fun (W : World) (X : Option Addr) (q : Nat) (hX : Sl W W.heap.size X (le 1 n ++ l ++ more)) (h5 : n + 1 + nm ≤ q) (h6 : q ≤ maxLen) => unpart_ok (n + 1 + nm) n X q (le 1 n ++ l ++ more) W (by rw [p2, hlm]) (by omega) p3 (by omega) h5 h6 (by omega) hX
  rw [p4, p5] at cU
  rw [hlm] at p2
  have hlen2 : (le k m ++ more).length = k + nm := by rw [List.length_append, le_length, hlm]
  have hlen1 : (le k m).length = k := le_length _ _
  generalize hNk : n + k = N at *
  have i3 : ¬ (N : Int) < (n : Int) := by omega
  have i4 : (n : Int) ≤ (N : Int) := by omega
  have i5 : (0 : Int) ≤ (n : Int) := by omega
  have n1 : ((m : Int) != (m : Int)) = false := bne_self_eq_false _
  have HN := Lib.hid hN
  have H1 := Lib.hid hlen1
  have H2 := Lib.hid hlen2
  have HM := Lib.hid hlm
  have HL := Lib.hid hln
  have P1 := Lib.hid p1
  have P2 := Lib.hid p2
  have P5 : Hid (1 ≤ k ∧ k ≤ 4 ∧ nm ≤ 400 ∧ n ≤ 255 ∧ n < N) := ⟨hp, h4, h2, h1, by omega⟩
  clear hN ht hd ht2 hd2 p1 p2 p3 p4 p5 hlen1 hlen2 hG hA hA' hm hk hp h4 hlm hln h1 h2 cA
  generalize l ++ le k m = x at *
  generalize le k m = y0 at *
  generalize le 1 n ++ l = z0 at *
  go_enter Try.func5, Try.ntmps5
  go_wp2_with (first
    | (go_at_call 8
       (with_reducible refine c1.mono ?_)
       rintro e w1 ⟨⟨v1, rfl, hown1⟩, hb1⟩
       obtain ⟨g1, q1, hv1, hq1, -, -, -⟩ := hown1.at (by rw [HN.out]; have := P5.out; omega)
       rw [HN.out] at hq1 hv1
       subst hv1
       have i6 : (n : Int) ≤ (q1 : Int) := (by omega)
       have i7 : ¬ (q1 : Int) = (n : Int) := (by have := P5.out; omega)
       obtain ⟨X1, z1, hv, -, -, hs1, -⟩ := hown1.form
       simp only [Value.slice.injEq] at hv
       obtain ⟨rfl, -, -⟩ := hv)
    | (go_at_call 12; (with_reducible refine (cK _ _ _ hb1 hs1).mono ?_); rintro e w2 ⟨rfl, hb2⟩; have hs2 := hs1.next hb2; have hb12 := bt hb1 hb2)
    | (go_at_call 7; (with_reducible refine (cT _ _ _ hs2).mono ?_); rintro e w3 ⟨⟨v3, rfl, hown3⟩, hb3⟩; have hb13 := bt hb12 hb3)
    | (at_builtin
       refine wpList_app8 _ rfl (.tmp 55) (.tmp 56) _ _ rfl w2.heap.size 5 t8 v3 y0 rfl hown3 _ more rfl (hsrc _ hb13) ?_ ?_ ?_
       · rw [H1.out, HM.out]; have := P5.out; omega
       · exact hb3.size
       intro v4 w4 hown4 hg4 hat4
       have hb14 := bt hb12 (hb3.grown hg4 hb3.size (own_far hown3))
       obtain ⟨X4, z4, hv4, hq4, hx4, hs4, -⟩ := hown4.form
       rw [H2.out] at hv4 hq4
       subst hv4)
    | (go_at_call 9
       (with_reducible refine (cG _ _ _ hs4 hq4 hx4).mono ?_)
       rintro e w5 ⟨⟨v5, rfl, hown5⟩, hb5⟩
       have hb15 := bt hb14 hb5
       obtain ⟨X5, z5, hv5, -, -, hs5, -⟩ := hown5.form
       rw [HM.out] at hv5
       subst hv5)
    | (go_at_call 12; (with_reducible refine (cM _ _ _ hb15 hs5).mono ?_); rintro e w6 ⟨rfl, hb6⟩; have hb16 := bt hb15 hb6)
    | (go_at_call 10
       (with_reducible refine (cP _ hb16).mono ?_)
       rintro e w7 ⟨⟨v7, rfl, hown7⟩, hb7⟩
       have hb17 := bt hb16 hb7
       obtain ⟨X7, z7, hv7, -, -, hs7, -⟩ := hown7.form
       rw [P1.out] at hv7
       subst hv7)
    | (go_at_call 7; (with_reducible refine (cQ _ _ _ hs7).mono ?_); rintro e w8 ⟨⟨v8, rfl, hown8⟩, hb8⟩; have hb18 := bt hb17 hb8)
    | (at_builtin
       refine wpList_app8 _ rfl (.tmp 83) (.tmp 84) _ _ rfl w7.heap.size 5 t8 v8 z0 rfl hown8 _ more rfl (hsrc _ hb18) ?_ ?_ ?_
       · rw [P1.out, HM.out]; have := P5.out; omega
       · exact hb8.size
       intro v9 w9 hown9 hg9 hat9
       have hb19 := bt hb17 (hb8.grown hg9 hb8.size (own_far hown8))
       obtain ⟨X9, z9, hv9, hq9, hx9, hs9, -⟩ := hown9.form
       rw [P2.out] at hv9 hq9
       subst hv9)
    | (go_at_call 11
       (with_reducible refine (cU _ _ _ hs9 hq9 hx9).mono ?_)
       rintro e wa ⟨⟨va, vb, rfl, howna, hownb⟩, hba⟩
       have hb1a := bt hb19 hba
       obtain ⟨Xa, za, hva, -, -, hsa, -⟩ := howna.form
       rw [HL.out] at hva
       subst hva
       obtain ⟨Xb, zb, hvb, -, -, hsb, -⟩ := hownb.form
       rw [HM.out] at hvb
       subst hvb)
    | (go_at_call 12; (with_reducible refine (cL _ _ _ hb1a hsa).mono ?_); rintro e wc ⟨rfl, hbc⟩; have hb1c := bt hb1a hbc; have hsc := hsb.next hbc)
    | (go_at_call 12; (with_reducible refine (cM _ _ _ hb1c hsc).mono ?_); rintro e wd ⟨rfl, hbd⟩; have hb1d := bt hb1c hbd)
    | (go_at_call 18; (with_reducible refine (wakes_any _).mono ?_); rintro e we ⟨rfl, hbe⟩; have hb1e := bt hb1d hbe))
  go_ret
  exact ⟨rfl, hb1e⟩

set_option maxHeartbeats 2000000 in
theorem back_not (A A' : Option Addr) (c c' n nm : Nat) (x s : Int) (l more : List UInt8) (w : World) (hln : l.length = n) (hlm : more.length = nm) (h1 : n ≤ 255) (h2 : nm ≤ 400) (hf : ¬ Fits x s) (hA : Sl w w.heap.size A l) (hA' : Sl w w.heap.size A' more) :
    Calls Try.prog 5 #[.slice A n c, .int .i64 x, .int .i64 s, .slice A' nm c'] w fun e w' => e = .returned (.bool true) ∧ Below w.heap.size w w' := by
  have i1 : ¬ (255 : Int) < (n : Int) := by omega
  have i2 : ¬ (400 : Int) < (nm : Int) := by omega
  have c1 := put_no x s (.slice A n c) w hf
  have hsrc : ∀ W, Below w.heap.size w W → Src Try.prog 1 22 (.slice A' nm c') more.length (cells8 more) W := fun W hW => by
    subst hlm
    exact (hA'.below hW).src Try.underlying22 c'
  have cM := fun (W : World) (X : Option Addr) (q : Nat) (hW : Below w.heap.size w W) (hX : Sl W W.heap.size X more) => same_any nm X A' q c' more W hlm hX ((hA'.below hW).more hW.size) (by omega)
  have cL := fun (W : World) (X : Option Addr) (q : Nat) (hW : Below w.heap.size w W) (hX : Sl W W.heap.size X l) => same_any n X A q c l W hln hX ((hA.below hW).more hW.size) (by omega)
  have cP := part_ok n A c l w hln h1 hA
  obtain ⟨p1, p2, p3, p4, p5⟩ := part_bytes n l more hln h1
  have cQ := fun (W : World) (X : Option Addr) (q : Nat) (hX : Sl W W.heap.size X (le 1 n ++ l)) => twin_len X q W.heap.size (n + 1) (le 1 n ++ l) W p1 hX (by omega)
  have cU := fun (W : World) (X : Option Addr) (q : Nat) (hX : Sl W W.heap.size X (le 1 n ++ l ++ more)) (h5 : n + 1 + nm ≤ q) (h6 : q ≤ maxLen) => unpart_ok (n + 1 + nm) n X q (le 1 n ++ l ++ more) W (by rw [p2, hlm]) (by omega) p3 (by omega) h5 h6 (by omega) hX
  rw [p4, p5] at cU
  rw [hlm] at p2
  have HM := Lib.hid hlm
  have HL := Lib.hid hln
  have P1 := Lib.hid p1
  have P2 := Lib.hid p2
  have P5 : Hid (nm ≤ 400 ∧ n ≤ 255) := ⟨h2, h1⟩
  clear p1 p2 p3 p4 p5 hA hA' hlm hln h1 h2 hf
  generalize le 1 n ++ l = z0 at *
  go_enter Try.func5, Try.ntmps5
  go_wp2_with (first
    | (go_at_call 8; (with_reducible refine c1.mono ?_); rintro e w1 ⟨rfl, rfl⟩)
    | (go_at_call 10
       (with_reducible refine cP.mono ?_)
       rintro e w7 ⟨⟨v7, rfl, hown7⟩, hb7⟩
       have hb17 := hb7
       obtain ⟨X7, z7, hv7, -, -, hs7, -⟩ := hown7.form
       rw [P1.out] at hv7
       subst hv7)
    | (go_at_call 7; (with_reducible refine (cQ _ _ _ hs7).mono ?_); rintro e w8 ⟨⟨v8, rfl, hown8⟩, hb8⟩; have hb18 := bt hb17 hb8)
    | (at_builtin
       refine wpList_app8 _ rfl (.tmp 83) (.tmp 84) _ _ rfl w7.heap.size 5 t8 v8 z0 rfl hown8 _ more rfl (hsrc _ hb18) ?_ ?_ ?_
       · rw [P1.out, HM.out]; have := P5.out; omega
       · exact hb8.size
       intro v9 w9 hown9 hg9 hat9
       have hb19 := bt hb17 (hb8.grown hg9 hb8.size (own_far hown8))
       obtain ⟨X9, z9, hv9, hq9, hx9, hs9, -⟩ := hown9.form
       rw [P2.out] at hv9 hq9
       subst hv9)
    | (go_at_call 11
       (with_reducible refine (cU _ _ _ hs9 hq9 hx9).mono ?_)
       rintro e wa ⟨⟨va, vb, rfl, howna, hownb⟩, hba⟩
       have hb1a := bt hb19 hba
       obtain ⟨Xa, za, hva, -, -, hsa, -⟩ := howna.form
       rw [HL.out] at hva
       subst hva
       obtain ⟨Xb, zb, hvb, -, -, hsb, -⟩ := hownb.form
       rw [HM.out] at hvb
       subst hvb)
    | (go_at_call 12; (with_reducible refine (cL _ _ _ hb1a hsa).mono ?_); rintro e wc ⟨rfl, hbc⟩; have hb1c := bt hb1a hbc; have hsc := hsb.next hbc)
    | (go_at_call 12; (with_reducible refine (cM _ _ _ hb1c hsc).mono ?_); rintro e wd ⟨rfl, hbd⟩; have hb1d := bt hb1c hbd)
    | (go_at_call 18; (with_reducible refine (wakes_any _).mono ?_); rintro e we ⟨rfl, hbe⟩; have hb1e := bt hb1d hbe))
  go_ret
  exact ⟨rfl, hb1e⟩
theorem packBack_law (A A' : Option Addr) (c c' : Nat) (n s : Int) (l more : List UInt8) (w : World) (hA : Sl w w.heap.size A l) (hA' : Sl w w.heap.size A' more) :
    Calls Try.prog 5 #[.slice A l.length c, .int .i64 n, .int .i64 s, .slice A' more.length c'] w fun e w' => e = .returned (.bool true) ∧ Below w.heap.size w w' := by
  by_cases h : 255 < l.length ∨ 400 < more.length
  · exact back_out A A' c c' _ _ n s w h
  · by_cases hf : Fits n s
    · obtain ⟨k, m, rfl, rfl, hk, hm⟩ := hf
      exact back_fits A A' c c' _ _ k m l more w rfl rfl (by omega) (by omega) hk hm hA hA'
    · exact back_not A A' c c' _ _ n s l more w rfl rfl (by omega) (by omega) hf hA hA'
end Go.Proofs.Ytpkbfhpcadjglaa.pck
