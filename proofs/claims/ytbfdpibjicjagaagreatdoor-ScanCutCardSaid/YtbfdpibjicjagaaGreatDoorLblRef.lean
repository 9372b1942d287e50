/-
  The document's own answers for labels (as the statements' package gives them), each by its contract. Conditions: texts shorter than 2^47 bytes, slices shorter than 2^46.
-/
import Derived.Test.YtbfdpibjicjagaaGreatDoorGLr
import Derived.Deep.QuietTactic
import Derived.BigQuiet
set_option maxHeartbeats 1000000
set_option maxRecDepth 100000
namespace Go.Proofs.YtbfdpibjicjagaaGreatDoor.lbl
open Go.RowKit Go.Lib
theorem below_dn {B : Nat} {a w : World} (h : Below B a w) (n : Nat) : Below B a (w.drewN n) := ⟨h.os, h.tape, h.output, h.size, h.block⟩
theorem dec_ext (s : ByteArray) (pos : Nat) : Utf8.decode (s.extract pos s.size) 0 = Utf8.decode s pos := by
 rw [← decodeL_drop, ← decodeL_drop, List.drop_zero, ext_drop]
theorem dec_fits (s : ByteArray) (pos : Nat) (h : pos < s.size) : pos + (Utf8.decode s pos).2 ≤ s.size := by
 rw [← decodeL_drop]
 have hne : s.data.toList.drop pos ≠ [] := by
  intro k
  have := congrArg List.length k
  rw [List.length_drop, size_list, List.length_nil] at this
  omega
 have := dec_le _ hne
 rw [List.length_drop, size_list] at this
 omega
theorem step_any (s : ByteArray) (pos : Nat) (hs : s.size ≤ maxLen) (h : pos < s.size) : ∃ P Q : Int, (∀ W : World, Calls Tryz.prog 52 #[.string (s.extract pos s.size)] W fun e w' => e = .returned (.tuple #[.int .i64 P, .int .i64 Q]) ∧ W = w') ∧
  max P 1 = ((Utf8.decode s pos).2 : Int) ∧ ((bad (Utf8.decode s pos) = true ∧ P = 0 ∧ Q = 0) ∨ (bad (Utf8.decode s pos) = false ∧ P = ((Utf8.decode s pos).2 : Int) ∧ Q = ((Utf8.decode s pos).1 : Int))) := by
 have hw := width_pos s pos
 have hz : (s.extract pos s.size).size = s.size - pos := by rw [ByteArray.size_extract]; omega
 refine ⟨(oneA (Utf8.decode s pos)).1, (oneA (Utf8.decode s pos)).2, fun W => ?_, ?_, ?_⟩
 ·have := rune_any (s.extract pos s.size) W (by omega) (by omega)
  unfold oneB at this
  rw [dec_ext] at this
  exact this.mono fun _ _ h => h
 ·unfold oneA
  split
  ·have : (Utf8.decode s pos).2 = 1 := by
    rename_i hb
    simp only [bad, Bool.and_eq_true, beq_iff_eq] at hb
    exact hb.2
   rw [this]
   decide
  ·show max ((Utf8.decode s pos).2 : Int) 1 = _
   omega
 ·unfold oneA
  split
  ·exact .inl ⟨by assumption, rfl, rfl⟩
  ·exact .inr ⟨(Bool.not_eq_true _).mp (by assumption), rfl, rfl⟩
theorem ref_label (s : ByteArray) (w : World) (hs : s.size ≤ 281474976710656) :
  Calls Tryz.prog 34 #[.string s] w fun e w' => e = .returned (.int .i64 (labE s.data.toList)) ∧ w = w' := by
 obtain ⟨ANS, hANS⟩ : ∃ ANS, labE s.data.toList = ANS := ⟨_, rfl⟩
 rw [hANS]
 have HA := Lib.hid hANS
 clear hANS
 go_enter Tryz.func34, Tryz.ntmps34
 go_wp2
 go_loop [3, 4, 5, 6] (fun n i _ _ => ∃ pos acc : Nat, i = .int .i64 pos ∧ n = .int .i64 acc ∧ pos ≤ s.size ∧ acc ≤ pos ∧ acc + (toks (s.data.toList.drop pos)).length = (toks s.data.toList).length ∧ okT s.data.toList = okT (s.data.toList.drop pos)) (fun _ i _ _ => s.size - (RowKit.intOf i).toNat)
 case atStart => exact ⟨0, 0, rfl, rfl, by omega, by omega, by simp, by simp⟩
 case round =>
  obtain ⟨pos, acc, rfl, rfl, hp, ha, hc, hk⟩ := hrel
  by_cases hlt : pos < s.size
  ·obtain ⟨P, Q, cR, -, hPQ⟩ := step_any s pos (by unfold maxLen; omega) hlt
   have hf := dec_fits s pos hlt
   have hw := width_pos s pos
   have hst := drop_step s pos hlt
   have hok : okT s.data.toList = (!bad (Utf8.decode s pos) && fine (Utf8.decode s pos) && okT (s.data.toList.drop (pos + (Utf8.decode s pos).2))) := by
    rw [hk]
    unfold okT
    rw [hst, List.all_cons]
   rw [hst, List.length_cons] at hc
   clear hst hk
   have HO := Lib.hid hok
   have H := Lib.hid hc
   clear hc hok
   rcases hPQ with ⟨hb, rfl, rfl⟩ | ⟨hb, rfl, rfl⟩
   ·have hA : Hid (ANS = 3) := by
     have := HO.out
     rw [hb] at this
     rw [← HA.out]
     unfold labE
     rw [if_pos (by simpa using this)]
     exact rfl
    have HB := Lib.hid hb
    clear hb
    go_wp2_with (go_at_call 52; (with_reducible refine (cR _).mono ?_); rintro e w' ⟨rfl, rfl⟩)
    go_ret
    exact ⟨ret_int hA.out.symm, rfl⟩
   ·have HB := Lib.hid hb
    clear hb
    have hz : (((Utf8.decode s pos).2 : Int) == 0) = false := beq_eq_false_iff_ne.2 (by omega)
    by_cases hfin : fine (Utf8.decode s pos) = true
    ·have hO2 : Hid (okT s.data.toList = okT (s.data.toList.drop (pos + (Utf8.decode s pos).2))) := by
      have := HO.out
      rw [HB.out, hfin] at this
      exact Lib.hid (by simpa using this)
     have h32 : 32 ≤ (Utf8.decode s pos).1 ∧ (Utf8.decode s pos).1 ≠ 127 := by
      unfold fine at hfin
      simpa using hfin
     have q1 : ¬ (((Utf8.decode s pos).1 : Int) < 32) := by omega
     have q2 : (((Utf8.decode s pos).1 : Int) == 127) = false := beq_eq_false_iff_ne.2 (by omega)
     clear hfin h32
     go_wp2_with (go_at_call 52; (with_reducible refine (cR _).mono ?_); rintro e w' ⟨rfl, rfl⟩)
     go_round
     case rel => exact ⟨pos + (Utf8.decode s pos).2, acc + 1, by go_num, by go_num, by omega, by omega, by have := H.out; omega, hO2.out⟩
     case measure => simp [RowKit.intOf]; omega
    ·have hA : Hid (ANS = 3) := by
      have := HO.out
      rw [HB.out, show fine (Utf8.decode s pos) = false by simpa using hfin] at this
      rw [← HA.out]
      unfold labE
      rw [if_pos (by simpa using this)]
      exact rfl
     by_cases h32 : (Utf8.decode s pos).1 < 32
     ·have q1 : (((Utf8.decode s pos).1 : Int) < 32) := by omega
      clear hfin
      go_wp2_with (go_at_call 52; (with_reducible refine (cR _).mono ?_); rintro e w' ⟨rfl, rfl⟩)
      go_ret
      exact ⟨ret_int hA.out.symm, rfl⟩
     ·have q1 : ¬ (((Utf8.decode s pos).1 : Int) < 32) := by omega
      have q127 : (Utf8.decode s pos).1 = 127 := by
       unfold fine at hfin
       simp at hfin
       exact hfin (by omega)
      have q2 : (((Utf8.decode s pos).1 : Int) == 127) = true := beq_iff_eq.2 (by omega)
      have q3 : ((Utf8.decode s pos).1 == 127) = true := beq_iff_eq.2 q127
      clear hfin q127
      go_wp2_with (go_at_call 52; (with_reducible refine (cR _).mono ?_); rintro e w' ⟨rfl, rfl⟩)
      go_ret
      exact ⟨ret_int hA.out.symm, rfl⟩
  ·have hnil : s.data.toList.drop pos = [] := List.drop_eq_nil_of_le (by rw [size_list]; omega)
   rw [hnil] at hk hc
   simp only [toks_nil, List.length_nil, Nat.add_zero] at hc
   have hA : Hid (ANS = if 6 < acc then 2 else 0) := by
    rw [← HA.out, lab_of (by rw [hk]; rfl), ← hc]
    exact rfl
   clear hk hc hnil
   by_cases h6 : 6 < acc
   ·have i6 : (6 : Int) < (acc : Int) := by omega
    go_wp2
    go_ret
    exact ⟨ret_int (by rw [hA.out, if_pos h6]), rfl⟩
   ·have i6 : ¬ (6 : Int) < (acc : Int) := by omega
    go_wp2
    go_ret
    exact ⟨ret_int (by rw [hA.out, if_neg h6]), rfl⟩
end Go.Proofs.YtbfdpibjicjagaaGreatDoor.lbl
