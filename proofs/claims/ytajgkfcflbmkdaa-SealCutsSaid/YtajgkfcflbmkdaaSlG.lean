/-
  The document's own opening of sectors (as the statements' package gives it), by its contract. Conditions: byte strings shorter than 2^20.
-/
import Derived.Test.YtajgkfcflbmkdaaSlF
namespace Go.Proofs.Ytajgkfcflbmkdaa.sel
open Go.RowKit Go.Lib
open Go.Proofs.Ytajgkfcflbmkdaa.crc (sum ref_sum sum_lt)
open Go.Proofs.Ytajgkfcflbmkdaa.pck (num ref_get)

theorem quiet {f : FuncId} {args : Array Value} {W : World} {v : Value} (h : Calls Try.prog f args W fun e w' => e = .returned v ∧ W = w') : Calls Try.prog f args W fun e w' => e = .returned v ∧ w' = W :=
  h.mono fun _ _ ⟨he, hw⟩ => ⟨he, hw.symm⟩
theorem rget_tail (k m n q b0 off c : Nat) (b : List UInt8) (W : World) (hq : m + k ≤ n) (hq2 : n - m = q) (hlen : b.length = n) (hk : k ≤ 4) (hA : Sl W W.heap.size (some ⟨b0, off, none⟩) b) :
    Calls Try.prog 21 #[.slice (some ⟨b0, off + m, none⟩) q c, .int .i64 k] W fun e w' => e = .returned (.int .i64 (num ((b.drop m).take k))) ∧ W = w' := by
  have hd : (b.drop m).length = q := by rw [List.length_drop]; omega
  exact ref_get k q (some ⟨b0, off + m, none⟩) c _ (b.drop m) W hk hd (by omega) (hA.drop m)
theorem rsum_head (m b0 off c : Nat) (b : List UInt8) (W : World) (hlen : m ≤ b.length) (hm : m ≤ 1000) (hA : Sl W W.heap.size (some ⟨b0, off, none⟩) b) :
    Calls Try.prog 22 #[.slice (some ⟨b0, off, none⟩) m c] W fun e w' => e = .returned (.int .i64 (sum (b.take m))) ∧ W = w' := by
  have ht : (b.take m).length = m := by rw [List.length_take]; omega
  have := ref_sum (some ⟨b0, off, none⟩) c _ (b.take m) W (hA.take m) (by unfold maxLen; omega)
  rwa [ht] at this

theorem ropen_long (n c : Nat) (A : Option Addr) (w : World) (h : n < 11 ∨ 107 < n) :
    Calls Try.prog 13 #[.slice A n c] w fun e w' => Refused 4 e ∧ Below w.heap.size w w' := by
  have h3 := three_new w (.int .i64 0) (.int .i64 0) (.slice none 0 0) 24
  have hb0 := bl w (.cells #[.int .i64 0, .int .i64 0, .slice none 0 0] 24)
  rcases h with h | h
  · have i1 : (n : Int) < 11 := by omega
    clear h
    go_enter Try.func13, Try.ntmps13
    go_wp2
    refine bodyPost_ret (v := .tuple #[.agg #[.int .i64 0, .int .i64 0, .slice none 0 0], .int .i64 4]) (by simp [results, Try.results13, go_sem]) rfl ⟨rfl, hb0⟩
  · have i1 : ¬ (n : Int) < 11 := by omega
    have i2 : (107 : Int) < (n : Int) := by omega
    clear h
    go_enter Try.func13, Try.ntmps13
    go_wp2
    refine bodyPost_ret (v := .tuple #[.agg #[.int .i64 0, .int .i64 0, .slice none 0 0], .int .i64 4]) (by simp [results, Try.results13, go_sem]) rfl ⟨rfl, hb0⟩

theorem ropen_sum (q b0 off c : Nat) (b : List UInt8) (w : World) (hlen : b.length = q + 11) (hm : q ≤ 96) (hc : q + 11 ≤ c) (hA : Sl w w.heap.size (some ⟨b0, off, none⟩) b) (hw : ¬ Whole b) :
    Calls Try.prog 13 #[.slice (some ⟨b0, off, none⟩) (q + 11 : Nat) c] w fun e w' => Refused 5 e ∧ Below w.heap.size w w' := by
  have h3 := three_new w (.int .i64 0) (.int .i64 0) (.slice none 0 0) 24
  have hb0 := bl w (.cells #[.int .i64 0, .int .i64 0, .slice none 0 0] 24)
  have hl : w.heap.size < (w.alloc (.cells #[.int .i64 0, .int .i64 0, .slice none 0 0] 24)).heap.size := by simp
  have i1 : ¬ (q : Int) + 11 < 11 := by omega
  have i2 : ¬ (107 : Int) < (q : Int) + 11 := by omega
  have hA0 := (hA.below hb0).more hb0.size
  have cG : ∀ (W : World) (hb : Below _ _ W), Calls Try.prog 21 #[.slice (some ⟨b0, off + (q + 7), none⟩) 4 (c - (q + 7)), .int .i64 4] W fun e w' => e = .returned (.int .i64 (num (b.drop (q + 7)))) ∧ W = w' := fun W hb => by
    have := rget_tail 4 (q + 7) (q + 11) 4 b0 off (c - (q + 7)) b W (by omega) (by omega) hlen (by omega) ((hA0.below hb).more hb.size)
    rwa [List.take_of_length_le (by rw [List.length_drop]; omega)] at this
  have cO : ∀ (W : World) (hb : Below _ _ W), Calls Try.prog 22 #[.slice (some ⟨b0, off, none⟩) (q + 7 : Nat) c] W fun e w' => e = .returned (.int .i64 (sum (b.take (q + 7)))) ∧ W = w' := fun W hb => rsum_head (q + 7) b0 off c b W (by omega) (by omega) ((hA0.below hb).more hb.size)
  have hne : num (b.drop (q + 7)) ≠ sum (b.take (q + 7)) := by
    unfold Whole at hw
    rwa [hlen, show q + 11 - 4 = q + 7 by omega] at hw
  generalize num (b.drop (q + 7)) = x at *
  generalize sum (b.take (q + 7)) = y at *
  have n1 : ((x : Int) == (y : Int)) = false := beq_eq_false_iff_ne.2 (by omega)
  have n2 : ((x : Int) != (y : Int)) = true := bne_iff_ne.2 (by omega)
  have n3 : (x == y) = false := beq_eq_false_iff_ne.2 hne
  have n4 : (x != y) = true := bne_iff_ne.2 hne
  have HO := Lib.hid cO
  have HG := Lib.hid cG
  clear hw hA hA0 hlen hne cO cG
  have v1 : (0 : Int) ≤ (q : Int) + 7 := by omega
  have v2 : ((q : Int) + 7).toNat = q + 7 := by omega
  have v3 : (q : Int) + 7 ≤ (q : Int) + 11 := by omega
  have v4 : (q : Int) + 7 ≤ (c : Int) := by omega
  have v5 : ¬ (c : Int) = (q : Int) + 7 := by omega
  go_enter Try.func13, Try.ntmps13
  go_wp2_with fail
  generalize w.alloc (.cells #[.int .i64 0, .int .i64 0, .slice none 0 0] 24) = w0 at *
  go_wp2
  go_quiet (first
    | (go_at_call 21; refine Calls.quiet_of_same (quiet (HG.out _ (below_dn (Below.refl _ _) _))))
    | (go_at_call 22; refine Calls.quiet_of_same (quiet (HO.out _ (below_dn (Below.refl _ _) _)))))
  have k3 : Three (w0.drewN nq) _ _ _ _ := ⟨h3.c0, h3.c1, h3.c2, h3.f0, h3.f1, h3.f2⟩
  obtain ⟨k0, k1, k2, z0, z1, z2⟩ := id k3
  go_wp2
  have k4 := k3.set (.int .i64 0) (.int .i64 0) (.slice none 0 0)
  refine bodyPost_ret (v := .tuple #[.agg #[.int .i64 0, .int .i64 0, .slice none 0 0], .int .i64 5]) (by simp [results, Try.results13, go_sem, k4.c0, k4.c1, k4.c2]) rfl ⟨rfl, Three.below (below_dn hb0 _) (Nat.le_refl _) _ _ _⟩
theorem ropen_lost (q b0 off c : Nat) (b : List UInt8) (w : World) (hlen : b.length = q + 11) (hm : q ≤ 96) (hc : q + 11 ≤ c) (hA : Sl w w.heap.size (some ⟨b0, off, none⟩) b) (hw : Whole b) (f : Nat) (hf : num (b.take 1) = f) (hfq : f ≠ q) :
    Calls Try.prog 13 #[.slice (some ⟨b0, off, none⟩) (q + 11 : Nat) c] w fun e w' => Refused 4 e ∧ Below w.heap.size w w' := by
  have h3 := three_new w (.int .i64 0) (.int .i64 0) (.slice none 0 0) 24
  have hb0 := bl w (.cells #[.int .i64 0, .int .i64 0, .slice none 0 0] 24)
  have hl : w.heap.size < (w.alloc (.cells #[.int .i64 0, .int .i64 0, .slice none 0 0] 24)).heap.size := by simp
  have i1 : ¬ (q : Int) + 11 < 11 := by omega
  have i2 : ¬ (107 : Int) < (q : Int) + 11 := by omega
  have hA0 := (hA.below hb0).more hb0.size
  have cG : ∀ (W : World) (hb : Below _ _ W), Calls Try.prog 21 #[.slice (some ⟨b0, off + (q + 7), none⟩) 4 (c - (q + 7)), .int .i64 4] W fun e w' => e = .returned (.int .i64 (num (b.drop (q + 7)))) ∧ W = w' := fun W hb => by
    have := rget_tail 4 (q + 7) (q + 11) 4 b0 off (c - (q + 7)) b W (by omega) (by omega) hlen (by omega) ((hA0.below hb).more hb.size)
    rwa [List.take_of_length_le (by rw [List.length_drop]; omega)] at this
  have cO : ∀ (W : World) (hb : Below _ _ W), Calls Try.prog 22 #[.slice (some ⟨b0, off, none⟩) (q + 7 : Nat) c] W fun e w' => e = .returned (.int .i64 (sum (b.take (q + 7)))) ∧ W = w' := fun W hb => rsum_head (q + 7) b0 off c b W (by omega) (by omega) ((hA0.below hb).more hb.size)
  have hne : num (b.drop (q + 7)) = sum (b.take (q + 7)) := by
    unfold Whole at hw
    rwa [hlen, show q + 11 - 4 = q + 7 by omega] at hw
  rw [← hne] at cO
  generalize num (b.drop (q + 7)) = x at *
  have n0 : ((x : Int) != (x : Int)) = false := bne_self_eq_false _
  have gf : ∀ W, Below w.heap.size w W → W.cell? ⟨b0, off, none⟩ = some (.int .u8 (f : Int)) := fun W hb => by
    obtain ⟨b', o', he, -, hc⟩ := (hA.below hb) (by omega)
    simp only [Option.some.injEq, Addr.mk.injEq, and_true] at he
    obtain ⟨rfl, rfl⟩ := he
    have := hc 0 (by omega)
    rw [Nat.add_zero] at this
    rw [this, ← hf, Go.Proofs.Ytajgkfcflbmkdaa.pck.num_one _ (by rw [List.length_take]; omega)]
    simp [by8]
  have gf0 := gf _ hb0
  have hfl : f < 256 := by
    rw [← hf, Go.Proofs.Ytajgkfcflbmkdaa.pck.num_one _ (by rw [List.length_take]; omega)]
    exact UInt8.toNat_lt _
  have n1 : ((f : Int) == (q : Int)) = false := beq_eq_false_iff_ne.2 (by omega)
  have n2 : ((f : Int) != (q : Int)) = true := bne_iff_ne.2 (by omega)
  have n3 : (f == q) = false := beq_eq_false_iff_ne.2 hfq
  have n4 : (f != q) = true := bne_iff_ne.2 hfq
  clear gf
  have HO := Lib.hid cO
  have HG := Lib.hid cG
  clear hw hA hA0 hlen hne cO cG hf hfq
  have v1 : (0 : Int) ≤ (q : Int) + 7 := by omega
  have v2 : ((q : Int) + 7).toNat = q + 7 := by omega
  have v3 : (q : Int) + 7 ≤ (q : Int) + 11 := by omega
  have v4 : (q : Int) + 7 ≤ (c : Int) := by omega
  have v5 : ¬ (c : Int) = (q : Int) + 7 := by omega
  go_enter Try.func13, Try.ntmps13
  go_wp2_with fail
  generalize w.alloc (.cells #[.int .i64 0, .int .i64 0, .slice none 0 0] 24) = w0 at *
  go_wp2
  go_quiet (first
    | (go_at_call 21; refine Calls.quiet_of_same (quiet (HG.out _ (below_dn (Below.refl _ _) _))))
    | (go_at_call 22; refine Calls.quiet_of_same (quiet (HO.out _ (below_dn (Below.refl _ _) _)))))
  have k3 : Three (w0.drewN nq) _ _ _ _ := ⟨h3.c0, h3.c1, h3.c2, h3.f0, h3.f1, h3.f2⟩
  obtain ⟨k0, k1, k2, z0, z1, z2⟩ := id k3
  go_wp2
  have k4 := k3.set (.int .i64 0) (.int .i64 0) (.slice none 0 0)
  refine bodyPost_ret (v := .tuple #[.agg #[.int .i64 0, .int .i64 0, .slice none 0 0],   .int .i64 4]) (by simp [results, Try.results13, go_sem, k4.c0, k4.c1, k4.c2]) rfl ⟨rfl, Three.below (below_dn hb0 _) (Nat.le_refl _) _ _ _⟩
theorem ropen_ok (q b0 off c : Nat) (b : List UInt8) (w : World) (hlen : b.length = q + 11) (hm : q ≤ 96) (hc : q + 11 ≤ c) (hA : Sl w w.heap.size (some ⟨b0, off, none⟩) b) (hw : Whole b) (hf : num (b.take 1) = q) :
    Calls Try.prog 13 #[.slice (some ⟨b0, off, none⟩) (q + 11 : Nat) c] w fun e w' => Opened w.heap.size ⟨0, num ((b.drop (q + 1)).take 2), num ((b.drop (q + 3)).take 4), (b.drop 1).take q⟩ e w' ∧ Below w.heap.size w w' := by
  have h3 := three_new w (.int .i64 0) (.int .i64 0) (.slice none 0 0) 24
  have hb0 := bl w (.cells #[.int .i64 0, .int .i64 0, .slice none 0 0] 24)
  have hl : w.heap.size < (w.alloc (.cells #[.int .i64 0, .int .i64 0, .slice none 0 0] 24)).heap.size := by simp
  have i1 : ¬ (q : Int) + 11 < 11 := by omega
  have i2 : ¬ (107 : Int) < (q : Int) + 11 := by omega
  have hA0 := (hA.below hb0).more hb0.size
  have cG : ∀ (W : World) (hb : Below _ _ W), Calls Try.prog 21 #[.slice (some ⟨b0, off + (q + 7), none⟩) 4 (c - (q + 7)), .int .i64 4] W fun e w' => e = .returned (.int .i64 (num (b.drop (q + 7)))) ∧ W = w' := fun W hb => by
    have := rget_tail 4 (q + 7) (q + 11) 4 b0 off (c - (q + 7)) b W (by omega) (by omega) hlen (by omega) ((hA0.below hb).more hb.size)
    rwa [List.take_of_length_le (by rw [List.length_drop]; omega)] at this
  have cO : ∀ (W : World) (hb : Below _ _ W), Calls Try.prog 22 #[.slice (some ⟨b0, off, none⟩) (q + 7 : Nat) c] W fun e w' => e = .returned (.int .i64 (sum (b.take (q + 7)))) ∧ W = w' := fun W hb => rsum_head (q + 7) b0 off c b W (by omega) (by omega) ((hA0.below hb).more hb.size)
  have hne : num (b.drop (q + 7)) = sum (b.take (q + 7)) := by
    unfold Whole at hw
    rwa [hlen, show q + 11 - 4 = q + 7 by omega] at hw
  rw [← hne] at cO
  generalize num (b.drop (q + 7)) = x at *
  have n0 : ((x : Int) != (x : Int)) = false := bne_self_eq_false _
  have gf : ∀ W, Below w.heap.size w W → W.cell? ⟨b0, off, none⟩ = some (.int .u8 (q : Int)) := fun W hb => by
    obtain ⟨b', o', he, -, hc⟩ := (hA.below hb) (by omega)
    simp only [Option.some.injEq, Addr.mk.injEq, and_true] at he
    obtain ⟨rfl, rfl⟩ := he
    have := hc 0 (by omega)
    rw [Nat.add_zero] at this
    have e := Go.Proofs.Ytajgkfcflbmkdaa.pck.num_one (b.take 1) (by rw [List.length_take]; omega)
    rw [hf, List.getElem_take] at e
    rw [this, by8, ← e]
  have gf0 := gf _ hb0
  have hfl : q < 256 := by
    have e := Go.Proofs.Ytajgkfcflbmkdaa.pck.num_one (b.take 1) (by rw [List.length_take]; omega)
    rw [hf, List.getElem_take] at e
    have := (b[0]'(by omega)).toNat_lt
    omega
  have n1 : ((q : Int) != (q : Int)) = false := bne_self_eq_false _
  have hpl : ((b.drop 1).take q).length = q := by rw [List.length_take, List.length_drop]; omega
  have cT : ∀ (W : World) (hb : Below _ _ W), Calls Try.prog 10 #[.slice (some ⟨b0, off + 1, none⟩) q (c - 1)] W fun e w' => (∃ X x, e = .returned (.slice X q x) ∧ Own w' W.heap.size 5 (.slice X q x) ((b.drop 1).take q)) ∧ Below W.heap.size W w' := fun W hb => by
    have := twin_any (some ⟨b0, off + 1, none⟩) (c - 1) _ ((b.drop 1).take q) W ((((hA0.below hb).more hb.size).drop 1).take q) (by omega)
    rw [hpl] at this
    refine this.mono ?_
    rintro e w' ⟨⟨v, rfl, ho⟩, hb'⟩
    obtain ⟨X, x, rfl, -, -, -, -⟩ := ho.form
    rw [hpl] at ho ⊢
    exact ⟨⟨X, x, rfl, ho⟩, hb'⟩
  have cG2 : ∀ (W : World) (hb : Below _ _ W), Calls Try.prog 21 #[.slice (some ⟨b0, off + (q + 1), none⟩) 10 (c - (q + 1)), .int .i64 2] W fun e w' => e = .returned (.int .i64 (num ((b.drop (q + 1)).take 2))) ∧ W = w' := fun W hb => rget_tail 2 (q + 1) (q + 11) 10 b0 off (c - (q + 1)) b W (by omega) (by omega) hlen (by omega) ((hA0.below hb).more hb.size)
  have cG4 : ∀ (W : World) (hb : Below _ _ W), Calls Try.prog 21 #[.slice (some ⟨b0, off + (q + 3), none⟩) 8 (c - (q + 3)), .int .i64 4] W fun e w' => e = .returned (.int .i64 (num ((b.drop (q + 3)).take 4))) ∧ W = w' := fun W hb => rget_tail 4 (q + 3) (q + 11) 8 b0 off (c - (q + 3)) b W (by omega) (by omega) hlen (by omega) ((hA0.below hb).more hb.size)
  generalize num ((b.drop (q + 1)).take 2) = ad at *
  generalize num ((b.drop (q + 3)).take 4) = st at *
  generalize (b.drop 1).take q = ld at *
  have HT := Lib.hid cT
  have HG2 := Lib.hid cG2
  have HG4 := Lib.hid cG4
  have v6 : (1 : Int) ≤ (q : Int) + 1 := by omega
  have v7 : (q : Int) + 1 ≤ (c : Int) := by omega
  have v8 : ¬ c = 1 := by omega
  have v9 : (q : Int) + 1 ≤ (q : Int) + 11 := by omega
  have v10 : (q : Int) + 3 ≤ (q : Int) + 11 := by omega
  have v11 : (q : Int) + 3 ≤ (c : Int) := by omega
  have v12 : (0 : Int) ≤ (q : Int) + 1 := by omega
  have v13 : (0 : Int) ≤ (q : Int) + 3 := by omega
  have v14 : ((q : Int) + 1).toNat = q + 1 := by omega
  have v15 : ((q : Int) + 3).toNat = q + 3 := by omega
  have v16 : ¬ (c : Int) = (q : Int) + 1 := by omega
  have v17 : ¬ (c : Int) = (q : Int) + 3 := by omega
  clear gf
  have HO := Lib.hid cO
  have HG := Lib.hid cG
  clear hw hA hA0 hlen hne cO cG hf cT cG2 cG4 hpl
  have v1 : (0 : Int) ≤ (q : Int) + 7 := by omega
  have v2 : ((q : Int) + 7).toNat = q + 7 := by omega
  have v3 : (q : Int) + 7 ≤ (q : Int) + 11 := by omega
  have v4 : (q : Int) + 7 ≤ (c : Int) := by omega
  have v5 : ¬ (c : Int) = (q : Int) + 7 := by omega
  go_enter Try.func13, Try.ntmps13
  go_wp2_with fail
  generalize w.alloc (.cells #[.int .i64 0, .int .i64 0, .slice none 0 0] 24) = w0 at *
  go_wp2
  go_quiet (first
    | (go_at_call 21; refine Calls.quiet_of_same (quiet (HG.out _ (below_dn (Below.refl _ _) _))))
    | (go_at_call 22; refine Calls.quiet_of_same (quiet (HO.out _ (below_dn (Below.refl _ _) _)))))
  go_wp2
  have hbn := below_dn (Below.refl w0.heap.size w0) nq
  have k3 : Three (w0.drewN nq) _ _ _ _ := ⟨h3.c0, h3.c1, h3.c2, h3.f0, h3.f1, h3.f2⟩
  have hb2 := below_dn hb0 nq
  have hl2 : w.heap.size < (w0.drewN nq).heap.size := hl
  generalize w0.drewN nq = w2 at *
  have u1 : IntKind.i64.wrap ((q : Int) + 1) = (q : Int) + 1 := wrap_small _ (by omega) (by omega)
  have u3 : IntKind.i64.wrap ((q : Int) + 3) = (q : Int) + 3 := wrap_small _ (by omega) (by omega)
  have u5 : IntKind.i64.wrap ((q : Int) + 11 - 10) = (q : Int) + 1 := by rw [show (q : Int) + 11 - 10 = (q : Int) + 1 by omega]; exact u1
  have u6 : IntKind.i64.wrap ((q : Int) + 11 - 8) = (q : Int) + 3 := by rw [show (q : Int) + 11 - 8 = (q : Int) + 3 by omega]; exact u3
  go_region_held3 (fun W => Below w.heap.size w W)
    (first | assumption | exact below_dr (by assumption) | exact Three.below (by assumption) (Nat.le_refl _) _ _ _ | exact bt (by assumption) (by assumption) | fail)
    (first
      | (go_at_call 10; (with_reducible refine (HT.out _ (below_dr hbn)).mono ?_); rintro e w3 ⟨⟨X, x, rfl, hown⟩, hb3⟩; obtain ⟨k0, k1, k2, z0, z1, z2⟩ := k3.drew.keep hb3 hl2)
      | (go_at_call 21; (with_reducible refine (HG2.out _ (bt (below_dr hbn) hb3)).mono ?_); rintro e w4 ⟨rfl, rfl⟩)
      | (go_at_call 21; (with_reducible refine (HG4.out _ (bt (below_dr hbn) hb3)).mono ?_); rintro e w4 ⟨rfl, rfl⟩)
      | (go_at_call 21; (with_reducible refine (HG2.out _ (below_dr hbn)).mono ?_); rintro e w4 ⟨rfl, rfl⟩)
      | (go_at_call 21; (with_reducible refine (HG4.out _ (below_dr hbn)).mono ?_); rintro e w4 ⟨rfl, rfl⟩)
      | fail)
  all_goals
    have k4 : Three w3 w.heap.size _ _ _ := ⟨k0, k1, k2, z0, z1, z2⟩
    have k5 := k4.set (.int .i64 ad) (.int .i64 st) (.slice X q x)
    have hb23 := below_dr hb2
    go_wp2
    refine bodyPost_ret (v := .tuple #[.agg #[.int .i64 ad, .int .i64 st, .slice X q x], .int .i64 0]) (by simp [results, Try.results13, go_sem, k5.c0, k5.c1, k5.c2]) rfl ⟨⟨_, rfl, (own_three hown hl2 _ _ _).less hb23.size⟩, Three.below (bt hb23 hb3) (Nat.le_refl _) _ _ _⟩
/-- The document's Open, whatever the bytes. -/
theorem ref_open (n : Nat) (A : Option Addr) (c : Nat) (b : List UInt8) (w : World) (hlen : b.length = n) (hc : n ≤ c) (hA : Sl w w.heap.size A b) :
    Calls Try.prog 13 #[.slice A n c] w fun e w' => Opened w.heap.size (opened b) e w' ∧ Below w.heap.size w w' := by
  subst hlen
  by_cases h : b.length < 11 ∨ 107 < b.length
  · rw [opened_short h]
    exact (ropen_long _ c A w h).mono fun e w' hq => ⟨Refused.opened (err := 4) hq.1, hq.2⟩
  · obtain ⟨b0, off, rfl, -, -⟩ := hA (by omega)
    obtain ⟨q, hlen⟩ : ∃ q, b.length = q + 11 := ⟨b.length - 11, by omega⟩
    unfold opened
    rw [if_neg h]
    by_cases hw : Whole b
    · rw [if_pos hw, hlen]
      simp only [show q + 11 - 11 = q by omega, show q + 11 - 10 = q + 1 by omega, show q + 11 - 8 = q + 3 by omega]
      by_cases hf : num (b.take 1) = q
      · rw [if_pos hf]
        exact ropen_ok q b0 off c b w hlen (by omega) (by omega) hA hw hf
      · rw [if_neg hf]
        exact (ropen_lost q b0 off c b w hlen (by omega) (by omega) hA hw _ rfl hf).mono fun e w' hq => ⟨Refused.opened (err := 4) hq.1, hq.2⟩
    · rw [if_neg hw, hlen]
      exact (ropen_sum q b0 off c b w hlen (by omega) (by omega) hA hw).mono fun e w' hq => ⟨Refused.opened (err := 5) hq.1, hq.2⟩
end Go.Proofs.Ytajgkfcflbmkdaa.sel
