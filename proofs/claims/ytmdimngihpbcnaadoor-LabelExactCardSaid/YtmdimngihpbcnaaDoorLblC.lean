/-
  Cut and Bytes of package label, each by its contract; Clone of package strings. Conditions: a text is shorter than 2^47 bytes; 'Tabs', 'ValidOk', 'CloneOk' as before.
-/
import Derived.Test.YtmdimngihpbcnaaDoorLblB
import Derived.WalkLawsBesides
import Derived.WalkSpells
namespace Go.Proofs.YtmdimngihpbcnaaDoor.lbl
open Go.RowKit Go.Lib

def cutS (s : ByteArray) (n : Nat) : ByteArray := s.extract 0 (wid ((toks s.data.toList).take n))
theorem cutS_list (s : ByteArray) (n : Nat) : (cutS s n).data.toList = cutL n s.data.toList := by
  unfold cutS cutL
  rw [Lib.extract_data, List.drop_zero, Nat.sub_zero]

theorem bt {a b c : World} (h : Below a.heap.size a b) (k : Below b.heap.size b c) : Below a.heap.size a c := h.trans (k.mono h.size)
theorem ret_str {a b : ByteArray} (h : a = b) : Ending.returned (.string a) = .returned (.string b) := by rw [h]

theorem clone_any (hC : CloneOk) (s : ByteArray) (w : World) (hs : s.size ≤ 281474976710656) :
    Calls Tryd.prog 24 #[.string s] w fun e w' => e = .returned (.string s) ∧ Below w.heap.size w w' := by
  go_enter Tryd.func24, Tryd.ntmps24
  go_wp2_with (go_at_call 27; refine (hC s _ hs).mono ?_; rintro e w' ⟨rfl, hb⟩)
  go_ret
  exact ⟨rfl, hb⟩

theorem extract_full (s : ByteArray) : s.extract 0 s.size = s := by
  apply ByteArray.ext
  rw [ByteArray.data_extract]
  exact Array.extract_size
theorem wid_none (t : List (Nat × Nat)) : wid (t.take 0) = 0 := rfl

theorem cut_minus (n : Int) (s : ByteArray) (w : World) (h : n < 0) :
    Calls Tryd.prog 19 #[.string s, .int .i64 n] w fun e w' => e = .returned (.string ⟨#[]⟩) ∧ Below w.heap.size w w' := by
  go_enter Tryd.func19, Tryd.ntmps19
  go_wp2
  go_ret
  exact ⟨rfl, Below.refl _ _⟩

set_option maxHeartbeats 1000000 in
set_option maxRecDepth 100000 in
theorem cut_any (hC : CloneOk) (s : ByteArray) (n : Nat) (w : World) (hs : s.size ≤ 281474976710656) :
    Calls Tryd.prog 19 #[.string s, .int .i64 n] w fun e w' => e = .returned (.string (cutS s n)) ∧ Below w.heap.size w w' := by
  have hn0 : ¬ ((n : Int) < 0) := by omega
  have hsz : s.data.toList.length = s.size := by rw [Array.length_toList]; rfl
  go_enter Tryd.func19, Tryd.ntmps19
  go_wp2
  go_loopw [5, 6] (fun k _ w' => ∃ (pos acc : Nat), w' = w.iter s pos ∧ k = .int .i64 acc ∧ acc ≤ n ∧ acc ≤ pos ∧ wid ((toks s.data.toList).take n) = pos + wid ((toks (s.data.toList.drop pos)).take (n - acc))) (fun _ _ w' => s.size - w'.iterPos w.heap.size)
  case atStart => exact ⟨0, 0, rfl, rfl, by omega, by omega, by simp⟩
  case round =>
    obtain ⟨pos, acc, rfl, rfl, hn, ha, hc⟩ := hrel
    by_cases hp : pos < s.size
    · have hnx : ∀ ty, (Instr.next (.pointer (some ⟨w.heap.size, 0, none⟩)) true ty).run Tryd.prog (w.iter s pos) = _ := fun ty => run_next_any w s pos ty hp
      have hwd := width_pos s pos
      by_cases he : acc = n
      · subst he
        rw [Nat.sub_self, wid_none, Nat.add_zero] at hc
        have H := Lib.hid hc
        clear hc
        have hz : (s.extract 0 pos).size ≤ 281474976710656 := by rw [ByteArray.size_extract]; omega
        go_wp2_with (go_at_call 24; refine (clone_any hC _ _ hz).mono ?_; rintro e w' ⟨rfl, hb⟩)
        go_ret
        exact ⟨ret_str (by unfold cutS; rw [H.out]), bt (below_iter _ _ _) hb⟩
      · have hst := drop_step s pos hp
        rw [hst, show n - acc = (n - (acc + 1)) + 1 by omega, List.take_succ_cons, wid] at hc
        have H := Lib.hid hc
        clear hc hst
        have he1 : ((acc : Int) == (n : Int)) = false := beq_eq_false_iff_ne.2 (by omega)
        have he2 : (acc == n) = false := by simpa using he
        go_wp2
        go_roundw
        case rel => exact ⟨pos + (Utf8.decode s pos).2, acc + 1, rfl, by go_num, by omega, by omega, by rw [H.out]; omega⟩
        case measure =>
          simp
          omega
    · have hnx : ∀ ty, (Instr.next (.pointer (some ⟨w.heap.size, 0, none⟩)) true ty).run Tryd.prog (w.iter s pos) = _ := fun ty => run_next_end w s pos ty hp
      rw [drop_end s pos hp, List.take_nil] at hc
      have hwl := wid_take_le s.data.toList n
      have H : Hid (cutS s n = s) := by
        unfold cutS
        have e : wid ((toks s.data.toList).take n) = s.size := by
          simp only [wid] at hc
          omega
        rw [e]
        exact extract_full s
      clear hc
      go_wp2_with (go_at_call 24; refine (clone_any hC _ _ hs).mono ?_; rintro e w' ⟨rfl, hb⟩)
      go_ret
      exact ⟨ret_str H.out.symm, bt (below_iter _ _ _) hb⟩
end Go.Proofs.YtmdimngihpbcnaaDoor.lbl
