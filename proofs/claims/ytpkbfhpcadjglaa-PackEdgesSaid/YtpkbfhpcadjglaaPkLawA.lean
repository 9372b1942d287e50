/-
  The law PackEdges, walked: it returns true for every input. No condition.
-/
import Derived.Test.YtpkbfhpcadjglaaPkD
namespace Go.Proofs.Ytpkbfhpcadjglaa.pck
open Go.RowKit Go.Lib

theorem wrap_mod (i : Int) (m : Nat) (hm : 0 < m) : ∃ a : Nat, a < m ∧ (IntKind.u64.wrap i).tmod (m : Int) = (a : Int) := by
  have h0 := wrap_nonneg i
  generalize IntKind.u64.wrap i = y at *
  rw [Int.tmod_eq_emod_of_nonneg h0]
  have h1 := Int.emod_nonneg y (show (m : Int) ≠ 0 by omega)
  have h2 := Int.emod_lt_of_pos y (show (0 : Int) < (m : Int) by omega)
  exact ⟨(y % (m : Int)).toNat, by omega, by omega⟩
theorem fits_not_big (k : Nat) {n : Int} (h : n < 0 ∨ 256 ^ k ≤ n) : ¬ Fits n k := by
  rintro ⟨j, m, hj, rfl, -, hm⟩
  have : k = j := by omega
  subst this
  have : ((256 ^ k : Nat) : Int) = 256 ^ k := by simp
  omega
theorem fits_not_size {n s : Int} (h : ¬ (s = 1 ∨ s = 2 ∨ s = 4)) : ¬ Fits n s := by
  rintro ⟨j, m, hj, rfl, hk, -⟩
  unfold Sz at hk
  omega
set_option maxHeartbeats 2000000 in
theorem edges_go (i s top top1 : Int) (k m a : Nat) (w : World) (ha : (IntKind.u64.wrap i).tmod 3 = (a : Int)) (hk : Sz k) (hs : s = k) (ht : top = m) (ht1 : top1 = top + 1) (hm : m + 1 = 256 ^ k) (hle : le k m = List.replicate k 255)
    (hc : a = 0 ∧ s = 1 ∧ top = 255 ∧ top1 = 256 ∧ k = 1 ∨ a = 1 ∧ s = 2 ∧ top = 65535 ∧ top1 = 65536 ∧ k = 2 ∨ a = 2 ∧ s = 4 ∧ top = 4294967295 ∧ top1 = 4294967296 ∧ k = 4) :
    Calls Try.prog 6 #[.int .i64 i] w fun e w' => e = .returned (.bool true) ∧ Below w.heap.size w w' := by
  have c1 : ∀ W, Calls Try.prog 8 #[.slice none 0 0, .int .i64 top, .int .i64 s] W fun e w' => Put W.heap.size (List.replicate k 255) e w' ∧ Below W.heap.size W w' := fun W => by
    have := put_ok k m 0 none 0 [] W hk (by omega) rfl (by omega) (Sl.nil _ _ _)
    rwa [List.nil_append, hle, ← hs, ← ht] at this
  have c2 : ∀ W, Calls Try.prog 8 #[.slice none 0 0, .int .i64 top1, .int .i64 s] W fun e w' => e = .returned (.tuple #[.slice none 0 0, .int .i64 1]) ∧ W = w' := fun W => put_no top1 s _ W (by
    rw [hs]
    refine fits_not_big k (.inr ?_)
    have : ((256 ^ k : Nat) : Int) = 256 ^ k := by simp
    omega)
  have c3 : ∀ W, Calls Try.prog 8 #[.slice none 0 0, .int .i64 (-1), .int .i64 s] W fun e w' => e = .returned (.tuple #[.slice none 0 0, .int .i64 1]) ∧ W = w' := fun W => put_no (-1) s _ W (by
    rw [hs]
    exact fits_not_big k (.inl (by omega)))
  have c4 : ∀ W, Calls Try.prog 8 #[.slice none 0 0, .int .i64 0, .int .i64 3] W fun e w' => e = .returned (.tuple #[.slice none 0 0, .int .i64 1]) ∧ W = w' := fun W => put_no 0 3 _ W (fits_not_size (by omega))
  have hlen : (List.replicate k (255 : UInt8)).length = k := List.length_replicate
  have hcell : ∀ W g n c B, Own W B 5 (.slice (some ⟨g, 0, none⟩) n c) (List.replicate k 255) → ∀ j, j < k → W.cell? ⟨g, j, none⟩ = some (.int .u8 255) := fun W g n c B h j hj => by
    rw [h.cell j (by omega)]
    simp [by8]
  have hpos := hk.pos
  generalize List.replicate k (255 : UInt8) = rr at *
  have HL := Lib.hid hlen
  clear hlen hle hm ht
  rcases hc with ⟨rfl, rfl, rfl, rfl, rfl⟩ | ⟨rfl, rfl, rfl, rfl, rfl⟩ | ⟨rfl, rfl, rfl, rfl, rfl⟩
  · clear hk hs hpos ht1
    go_enter Try.func6, Try.ntmps6
    go_wp2_with (first
      | (go_at_call 8; (with_reducible refine (c1 _).mono ?_); rintro e w1 ⟨⟨v1, rfl, hown1⟩, hb1⟩; obtain ⟨g1, k1, rfl, -, -, -, -⟩ := hown1.at (by rw [HL.out]; omega); rw [HL.out] at *)
      | (go_at_call 8; (with_reducible refine (c2 _).mono ?_); rintro e w2 ⟨rfl, rfl⟩)
      | (go_at_call 8; (with_reducible refine (c3 _).mono ?_); rintro e w3 ⟨rfl, rfl⟩)
      | (go_at_call 8; (with_reducible refine (c4 _).mono ?_); rintro e w4 ⟨rfl, rfl⟩))
    have hcl := hcell _ _ _ _ _ hown1
    have hb : Below w.heap.size w w1 := (((Below.refl w.heap.size w).alloc (Nat.le_refl _) _).alloc (by simp) _).trans (hb1.mono (by simp; omega))
    clear hcell c1 c2 c3 c4 hown1 hb1
    go_loop [13] (fun i => ∃ j : Nat, j ≤ 1 ∧ i = .int .i64 j) (fun i => 1 - (RowKit.intOf i).toNat)
    case atStart => exact ⟨0, by omega, rfl⟩
    case round =>
      obtain ⟨j, hj, rfl⟩ := hrel
      by_cases hlt : j < 1
      · have i1 : (j : Int) < 1 := by omega
        have gj := hcl j hlt
        go_wp2
        go_round
        case rel => exact ⟨j + 1, by omega, by go_num⟩
        case measure => simp [RowKit.intOf] <;> omega
      · have i1 : ¬ (j : Int) < 1 := by omega
        go_wp2_with (first
          | (go_at_call 18; (with_reducible refine (wakes_any _).mono ?_); rintro e w9 ⟨rfl, hb9⟩))
        go_ret
        exact ⟨rfl, bt hb hb9⟩
  · clear hk hs hpos ht1
    go_enter Try.func6, Try.ntmps6
    go_wp2_with (first
      | (go_at_call 8; (with_reducible refine (c1 _).mono ?_); rintro e w1 ⟨⟨v1, rfl, hown1⟩, hb1⟩; obtain ⟨g1, k1, rfl, -, -, -, -⟩ := hown1.at (by rw [HL.out]; omega); rw [HL.out] at *)
      | (go_at_call 8; (with_reducible refine (c2 _).mono ?_); rintro e w2 ⟨rfl, rfl⟩)
      | (go_at_call 8; (with_reducible refine (c3 _).mono ?_); rintro e w3 ⟨rfl, rfl⟩)
      | (go_at_call 8; (with_reducible refine (c4 _).mono ?_); rintro e w4 ⟨rfl, rfl⟩))
    have hcl := hcell _ _ _ _ _ hown1
    have hb : Below w.heap.size w w1 := (((Below.refl w.heap.size w).alloc (Nat.le_refl _) _).alloc (by simp) _).trans (hb1.mono (by simp; omega))
    clear hcell c1 c2 c3 c4 hown1 hb1
    go_loop [13] (fun i => ∃ j : Nat, j ≤ 2 ∧ i = .int .i64 j) (fun i => 2 - (RowKit.intOf i).toNat)
    case atStart => exact ⟨0, by omega, rfl⟩
    case round =>
      obtain ⟨j, hj, rfl⟩ := hrel
      by_cases hlt : j < 2
      · have i1 : (j : Int) < 2 := by omega
        have gj := hcl j hlt
        go_wp2
        go_round
        case rel => exact ⟨j + 1, by omega, by go_num⟩
        case measure => simp [RowKit.intOf] <;> omega
      · have i1 : ¬ (j : Int) < 2 := by omega
        go_wp2_with (first
          | (go_at_call 18; (with_reducible refine (wakes_any _).mono ?_); rintro e w9 ⟨rfl, hb9⟩))
        go_ret
        exact ⟨rfl, bt hb hb9⟩
  · clear hk hs hpos ht1
    go_enter Try.func6, Try.ntmps6
    go_wp2_with (first
      | (go_at_call 8; (with_reducible refine (c1 _).mono ?_); rintro e w1 ⟨⟨v1, rfl, hown1⟩, hb1⟩; obtain ⟨g1, k1, rfl, -, -, -, -⟩ := hown1.at (by rw [HL.out]; omega); rw [HL.out] at *)
      | (go_at_call 8; (with_reducible refine (c2 _).mono ?_); rintro e w2 ⟨rfl, rfl⟩)
      | (go_at_call 8; (with_reducible refine (c3 _).mono ?_); rintro e w3 ⟨rfl, rfl⟩)
      | (go_at_call 8; (with_reducible refine (c4 _).mono ?_); rintro e w4 ⟨rfl, rfl⟩))
    have hcl := hcell _ _ _ _ _ hown1
    have hb : Below w.heap.size w w1 := (((Below.refl w.heap.size w).alloc (Nat.le_refl _) _).alloc (by simp) _).trans (hb1.mono (by simp; omega))
    clear hcell c1 c2 c3 c4 hown1 hb1
    go_loop [13] (fun i => ∃ j : Nat, j ≤ 4 ∧ i = .int .i64 j) (fun i => 4 - (RowKit.intOf i).toNat)
    case atStart => exact ⟨0, by omega, rfl⟩
    case round =>
      obtain ⟨j, hj, rfl⟩ := hrel
      by_cases hlt : j < 4
      · have i1 : (j : Int) < 4 := by omega
        have gj := hcl j hlt
        go_wp2
        go_round
        case rel => exact ⟨j + 1, by omega, by go_num⟩
        case measure => simp [RowKit.intOf] <;> omega
      · have i1 : ¬ (j : Int) < 4 := by omega
        go_wp2_with (first
          | (go_at_call 18; (with_reducible refine (wakes_any _).mono ?_); rintro e w9 ⟨rfl, hb9⟩))
        go_ret
        exact ⟨rfl, bt hb hb9⟩
theorem packEdges_law (i : Int) (w : World) :
    Calls Try.prog 6 #[.int .i64 i] w fun e w' => e = .returned (.bool true) ∧ Below w.heap.size w w' := by
  obtain ⟨a, ha, hi⟩ := wrap_mod i 3 (by omega)
  have : a = 0 ∨ a = 1 ∨ a = 2 := by omega
  rcases this with rfl | rfl | rfl
  · exact edges_go i 1 255 256 1 255 0 w hi (.inl rfl) rfl rfl rfl rfl (by decide) (.inl ⟨rfl, rfl, rfl, rfl, rfl⟩)
  · exact edges_go i 2 65535 65536 2 65535 1 w hi (.inr (.inl rfl)) rfl rfl rfl rfl (by decide) (.inr (.inl ⟨rfl, rfl, rfl, rfl, rfl⟩))
  · exact edges_go i 4 4294967295 4294967296 4 4294967295 2 w hi (.inr (.inr rfl)) rfl rfl rfl rfl (by decide) (.inr (.inr ⟨rfl, rfl, rfl, rfl, rfl⟩))
end Go.Proofs.Ytpkbfhpcadjglaa.pck
