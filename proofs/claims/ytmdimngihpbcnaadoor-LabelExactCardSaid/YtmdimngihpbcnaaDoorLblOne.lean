/-
  The reader of one rune, at every text that is not empty: it answers what the decoder tells. Condition: the text is shorter than 2^63 bytes.
-/
import Derived.Test.YtmdimngihpbcnaaDoorLblRune2
import Derived.Test.YtmdimngihpbcnaaDoorLblRune3
import Derived.Test.YtmdimngihpbcnaaDoorLblRune4
namespace Go.Proofs.YtmdimngihpbcnaaDoor.lbl
open Go.RowKit Go.Lib

theorem oneA_ok (r s : Nat) (h : bad (r, s) = false) : oneA (r, s) = ((s : Int), (r : Int)) := by unfold oneA; rw [h]; rfl
theorem oneA_bad : oneA (65533, 1) = ((0 : Int), 0) := by decide

theorem rune_any (t : ByteArray) (w : World) (hm : t.size ≤ maxLen) (h0 : 0 < t.size) : Calls Tryd.prog 22 #[.string t] w (OneEnd (oneB t) w) := by
  unfold oneB
  rw [decode_at, Nat.sub_zero]
  have W := way t.size (t.get! 0).toNat (t.get! (0 + 1)).toNat (t.get! (0 + 2)).toNat (t.get! (0 + 3)).toNat
  simp only [Nat.zero_add] at W ⊢
  rw [get_el t 0 h0] at W ⊢
  have l0 := t[0].toNat_lt
  have g1 : ∀ h : 1 < t.size, (t.get! 1).toNat = (t[1]'h).toNat := fun h => get_el t 1 h
  have g2 : ∀ h : 2 < t.size, (t.get! 2).toNat = (t[2]'h).toNat := fun h => get_el t 2 h
  have g3 : ∀ h : 3 < t.size, (t.get! 3).toNat = (t[3]'h).toNat := fun h => get_el t 3 h
  generalize (t.get! 1).toNat = b1 at *
  generalize (t.get! 2).toNat = b2 at *
  generalize (t.get! 3).toNat = b3 at *
  generalize decodeN t.size t[0].toNat b1 b2 b3 = d at *
  cases W with
  | one h => exact r_one t w _ h0 h (oneA_ok _ _ (by simp [bad]; omega))
  | two hn h =>
    obtain rfl := g1 hn
    obtain ⟨x1, x2, x3⟩ := h
    have e : (r2 t[0].toNat t[1].toNat : Int) = 64 * ((t[0].toNat : Int) - 192) + (t[1].toNat : Int) - 128 := by unfold r2; omega
    have x4 : (128 : Int) ≤ (r2 t[0].toNat t[1].toNat : Int) := by omega
    have x5 : r2 t[0].toNat t[1].toNat < 2048 := by unfold r2; omega
    rw [e] at x4
    refine r2_ok t w hm _ h0 hn (by omega) (by omega) (by omega) (by omega) (by omega) (by omega) (by omega) ?_
    rw [oneA_ok _ _ (by simp [bad]), e]
    rfl
  | three hn h =>
    have hn1 : 1 < t.size := by omega
    obtain rfl := g1 hn1
    obtain rfl := g2 hn
    obtain ⟨x1, x2, x2', x3, xs⟩ := h
    have e : (r3 t[0].toNat t[1].toNat t[2].toNat : Int) = 64 * (64 * ((t[0].toNat : Int) - 224) + (t[1].toNat : Int) - 128) + (t[2].toNat : Int) - 128 := by unfold r3; omega
    have x4 : (2048 : Int) ≤ (r3 t[0].toNat t[1].toNat t[2].toNat : Int) := by omega
    have x5 : r3 t[0].toNat t[1].toNat t[2].toNat < 65536 := by unfold r3; omega
    have hk : oneA (r3 t[0].toNat t[1].toNat t[2].toNat, 3) = (((3 : Nat) : Int), (r3 t[0].toNat t[1].toNat t[2].toNat : Int)) := oneA_ok _ _ (by simp [bad])
    rw [hk, e]
    rw [e] at x4
    rcases xs with xs | xs
    · refine r3_ok1 t w hm _ h0 hn1 hn (by omega) (by omega) (by omega) (by omega) (by omega) (by omega) (by omega) (by omega) (by omega) rfl
    · refine r3_ok2 t w hm _ h0 hn1 hn (by omega) (by omega) (by omega) (by omega) (by omega) (by omega) (by omega) (by omega) (by omega) (by omega) rfl
  | four hn h =>
    have hn1 : 1 < t.size := by omega
    have hn2 : 2 < t.size := by omega
    obtain rfl := g1 hn1
    obtain rfl := g2 hn2
    obtain rfl := g3 hn
    obtain ⟨x1, x2, x2', x2'', x3, xs⟩ := h
    have e : (r4 t[0].toNat t[1].toNat t[2].toNat t[3].toNat : Int) = 64 * (64 * (64 * ((t[0].toNat : Int) - 240) + (t[1].toNat : Int) - 128) + (t[2].toNat : Int) - 128) + (t[3].toNat : Int) - 128 := by unfold r4; omega
    have hk : oneA (r4 t[0].toNat t[1].toNat t[2].toNat t[3].toNat, 4) = (((4 : Nat) : Int), (r4 t[0].toNat t[1].toNat t[2].toNat t[3].toNat : Int)) := oneA_ok _ _ (by simp [bad])
    rw [hk, e]
    refine r4_ok t w hm _ h0 hn1 hn2 hn (by omega) (by omega) (by omega) (by omega) (by omega) (by omega) (by omega) (by omega) (by omega) (by omega) rfl
  | none k0 k2 k3 k4 =>
    rw [oneA_bad]
    unfold C2 r2 at k2
    unfold C3 r3 at k3
    unfold C4 r4 at k4
    by_cases a1 : t[0].toNat < 192
    · exact r_low t w _ h0 (by omega) a1 rfl
    · by_cases a2 : t[0].toNat < 224
      · by_cases n1 : 1 < t.size
        · obtain rfl := g1 n1
          by_cases c1 : t[1].toNat < 128
          · exact r2_lo1 t w hm _ h0 n1 (by omega) a2 c1 rfl
          · by_cases d1 : t[1].toNat < 192
            · have k := k2 n1
              exact r2_small t w hm _ h0 n1 (by omega) a2 (by omega) d1 (by omega) rfl
            · exact r2_hi1 t w hm _ h0 n1 (by omega) a2 (by omega) rfl
        · exact r2_short t w hm _ h0 (by omega) (by omega) a2 rfl
      · by_cases a3 : t[0].toNat < 240
        · by_cases n2 : 2 < t.size
          · have n1 : 1 < t.size := by omega
            obtain rfl := g1 n1
            obtain rfl := g2 n2
            by_cases c1 : t[1].toNat < 128
            · exact r3_lo1 t w hm _ h0 n1 n2 (by omega) a3 c1 rfl
            · by_cases d1 : t[1].toNat < 192
              · by_cases c2 : t[2].toNat < 128
                · exact r3_lo2 t w hm _ h0 n1 n2 (by omega) a3 (by omega) d1 c2 rfl
                · by_cases d2 : t[2].toNat < 192
                  · have k := k3 n2
                    by_cases s1 : 64 * (64 * ((t[0].toNat : Int) - 224) + (t[1].toNat : Int) - 128) + (t[2].toNat : Int) - 128 < 2048
                    · exact r3_small t w hm _ h0 n1 n2 (by omega) a3 (by omega) d1 (by omega) d2 s1 rfl
                    · exact r3_sur t w hm _ h0 n1 n2 (by omega) a3 (by omega) d1 (by omega) d2 s1 (by omega) (by omega) (by omega) rfl
                  · exact r3_hi2 t w hm _ h0 n1 n2 (by omega) a3 (by omega) d1 (by omega) rfl
              · exact r3_hi1 t w hm _ h0 n1 n2 (by omega) a3 (by omega) rfl
          · exact r3_short t w hm _ h0 (by omega) (by omega) a3 rfl
        · by_cases a4 : t[0].toNat < 248
          · by_cases n3 : 3 < t.size
            · have n1 : 1 < t.size := by omega
              have n2 : 2 < t.size := by omega
              obtain rfl := g1 n1
              obtain rfl := g2 n2
              obtain rfl := g3 n3
              by_cases c1 : t[1].toNat < 128
              · exact r4_lo1 t w hm _ h0 n1 n2 n3 (by omega) a4 c1 rfl
              · by_cases d1 : t[1].toNat < 192
                · by_cases c2 : t[2].toNat < 128
                  · exact r4_lo2 t w hm _ h0 n1 n2 n3 (by omega) a4 (by omega) d1 c2 rfl
                  · by_cases d2 : t[2].toNat < 192
                    · by_cases c3 : t[3].toNat < 128
                      · exact r4_lo3 t w hm _ h0 n1 n2 n3 (by omega) a4 (by omega) d1 (by omega) d2 c3 rfl
                      · by_cases d3 : t[3].toNat < 192
                        · have k := k4 n3
                          by_cases s1 : 64 * (64 * (64 * ((t[0].toNat : Int) - 240) + (t[1].toNat : Int) - 128) + (t[2].toNat : Int) - 128) + (t[3].toNat : Int) - 128 < 65536
                          · exact r4_small t w hm _ h0 n1 n2 n3 (by omega) a4 (by omega) d1 (by omega) d2 (by omega) d3 s1 rfl
                          · exact r4_big t w hm _ h0 n1 n2 n3 (by omega) a4 (by omega) d1 (by omega) d2 (by omega) d3 s1 (by omega) rfl
                        · exact r4_hi3 t w hm _ h0 n1 n2 n3 (by omega) a4 (by omega) d1 (by omega) d2 (by omega) rfl
                    · exact r4_hi2 t w hm _ h0 n1 n2 n3 (by omega) a4 (by omega) d1 (by omega) rfl
                · exact r4_hi1 t w hm _ h0 n1 n2 n3 (by omega) a4 (by omega) rfl
            · exact r4_short t w hm _ h0 (by omega) (by omega) a4 rfl
          · exact r_high t w _ h0 (by omega) rfl
end Go.Proofs.YtmdimngihpbcnaaDoor.lbl
