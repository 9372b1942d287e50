/-
  What the functions of package label answer, each by its contract. Conditions: a text is shorter than 2^47 bytes; the two tables of the library's decoder are as its text lays them ('Tabs'); the library's ValidString and Clone answer as their documentation says ('ValidOk', 'CloneOk': proved apart).
-/
import Derived.Test.YtmdimngihpbcnaaDoorLblA
import Derived.Lib.DecodeN
import Derived.Lib.ValidU
namespace Go.Proofs.YtmdimngihpbcnaaDoor.lbl
open Go.RowKit Go.Lib

theorem validGo_eq : ∀ (f : Nat) (l : List UInt8), validGoD f l = (toksF f l).all fun d => !bad d
  | 0, _ => rfl
  | f + 1, l => by
    unfold validGoD toksF
    by_cases h : l = []
    · simp [h]
    · rw [if_neg h, if_neg h, List.all_cons]
      by_cases hb : (decodeL l).1 = 65533 ∧ (decodeL l).2 = 1
      · rw [if_pos hb]; simp [bad, hb.1, hb.2]
      · rw [if_neg hb, validGo_eq f]
        have : bad (decodeL l) = false := by
          simp only [bad, Bool.and_eq_false_iff, beq_eq_false_iff_ne]
          omega
        simp [this]
theorem valid_eq (l : List UInt8) : validD l = (toks l).all fun d => !bad d := validGo_eq _ _
theorem okT_eq (l : List UInt8) : okT l = (validD l && (toks l).all fine) := by
  rw [valid_eq]; unfold okT
  generalize toks l = t
  induction t with
  | nil => rfl
  | cons d r ih => simp only [List.all_cons, ih]; cases bad d <;> cases fine d <;> simp

/-- The library's two tables, as its text lays them (their blocks are the two variables'). -/
def Tabs (w : World) : Prop := 2 ≤ w.heap.size ∧
  (∀ c, c < 256 → w.cell? ⟨0, c, none⟩ = some (.int .u8 (firstT c))) ∧
  (∀ i, i < 16 → w.cell? ⟨1, 2 * i, none⟩ = some (.int .u8 (accLo i)) ∧ w.cell? ⟨1, 2 * i + 1, none⟩ = some (.int .u8 (accHi i)))
theorem Tabs.below {w w' : World} {B : Nat} (h : Tabs w) (hb : Below B w w') (hB : 2 ≤ B) : Tabs w' := by
  have hc : ∀ b o, b < 2 → w'.cell? ⟨b, o, none⟩ = w.cell? ⟨b, o, none⟩ := fun b o hlt => hb.cell (p := ⟨b, o, none⟩) (show b < B by omega)
  exact ⟨Nat.le_trans h.1 hb.size, fun c k => by rw [hc _ _ (by omega)]; exact h.2.1 c k, fun i k => by rw [hc _ _ (by omega), hc _ _ (by omega)]; exact h.2.2 i k⟩
theorem Tabs.next {w w' : World} (h : Tabs w) (hb : Below w.heap.size w w') : Tabs w' := h.below hb h.1
def ValidOk : Prop := ∀ (s : ByteArray) (w : World), s.size ≤ 9223372036854775807 → Tabs w →
  Calls Tryd.prog 25 #[.string s] w fun e w' => e = .returned (.bool (validD s.data.toList)) ∧ Below w.heap.size w w'
def CloneOk : Prop := ∀ (s : ByteArray) (w : World), s.size ≤ 281474976710656 →
  Calls Tryd.prog 27 #[.string s] w fun e w' => e = .returned (.string s) ∧ Below w.heap.size w w'

set_option maxHeartbeats 1000000 in
set_option maxRecDepth 100000 in
theorem text_any (hV : ValidOk) (s : ByteArray) (w : World) (hs : s.size < 9223372036854775807) (hT : Tabs w) :
    Calls Tryd.prog 23 #[.string s] w fun e w' => e = .returned (.bool (okT s.data.toList)) ∧ Below w.heap.size w w' := by
  have cV := hV s w (by omega) hT
  rw [okT_eq]
  generalize validD s.data.toList = V at cV ⊢
  cases V
  · rw [Bool.false_and]
    go_enter Tryd.func23, Tryd.ntmps23
    go_wp2_with (go_at_call 25; refine cV.mono ?_; rintro e w' ⟨rfl, hb⟩)
    go_ret
    exact ⟨rfl, hb⟩
  · rw [Bool.true_and]
    obtain ⟨ANS, hANS⟩ : ∃ ANS, (toks s.data.toList).all fine = ANS := ⟨_, rfl⟩
    rw [hANS]
    have HA := Lib.hid hANS
    clear hANS
    go_enter Tryd.func23, Tryd.ntmps23
    go_wp2_with (go_at_call 25; refine cV.mono ?_; rintro e w1 ⟨rfl, hb⟩)
    go_loopw [4] (fun _ w' => ∃ (pos : Nat), w' = w1.iter s pos ∧ (toks (s.data.toList.drop pos)).all fine = ANS) (fun _ w' => s.size - w'.iterPos w1.heap.size)
    case atStart => exact ⟨0, rfl, by simpa using HA.out⟩
    case round =>
      obtain ⟨pos, rfl, hc⟩ := hrel
      by_cases hp : pos < s.size
      · have hnx : ∀ ty, (Instr.next (.pointer (some ⟨w1.heap.size, 0, none⟩)) true ty).run Tryd.prog (w1.iter s pos) = _ := fun ty => run_next_any w1 s pos ty hp
        have hwd := width_pos s pos
        have hst := drop_step s pos hp
        rw [hst, List.all_cons] at hc
        clear hst
        have hf : (decide (32 ≤ ((Utf8.decode s pos).1 : Int)) && ((Utf8.decode s pos).1 : Int) != 127) = fine (Utf8.decode s pos) := by
          unfold fine
          have e1 : decide (32 ≤ ((Utf8.decode s pos).1 : Int)) = decide (32 ≤ (Utf8.decode s pos).1) := decide_eq_decide.2 (by omega)
          have e2 : (((Utf8.decode s pos).1 : Int) != 127) = ((Utf8.decode s pos).1 != 127) := by
            by_cases h : (Utf8.decode s pos).1 = 127
            · rw [h]; rfl
            · rw [bne_iff_ne.2 h]; exact bne_iff_ne.2 (by omega)
          rw [e1, e2]
        have cP : ∀ W : World, Calls Tryd.prog 26 #[.int .i32 ((Utf8.decode s pos).1 : Int)] W fun e w' => e = .returned (.bool (fine (Utf8.decode s pos))) ∧ W = w' := by
          intro W; rw [← hf]; exact permitted_any _ W
        clear hf
        generalize hF : fine (Utf8.decode s pos) = F at cP hc
        clear hF
        cases F
        · rw [Bool.false_and] at hc
          subst hc
          go_wp2_with (go_at_call 26; refine (cP _).mono ?_; rintro e w' ⟨rfl, rfl⟩)
          go_ret
          exact ⟨rfl, hb.trans ((below_iter _ _ _).mono hb.size)⟩
        · rw [Bool.true_and] at hc
          have H := Lib.hid hc
          clear hc
          go_wp2_with (go_at_call 26; refine (cP _).mono ?_; rintro e w' ⟨rfl, rfl⟩)
          go_roundw
          case rel => exact ⟨pos + (Utf8.decode s pos).2, rfl, H.out⟩
          case measure =>
            simp
            omega
      · have hnx : ∀ ty, (Instr.next (.pointer (some ⟨w1.heap.size, 0, none⟩)) true ty).run Tryd.prog (w1.iter s pos) = _ := fun ty => run_next_end w1 s pos ty hp
        rw [drop_end s pos hp, List.all_nil] at hc
        subst hc
        go_wp2
        go_ret
        exact ⟨rfl, hb.trans ((below_iter _ _ _).mono hb.size)⟩

set_option maxHeartbeats 1000000 in
theorem check_any (hV : ValidOk) (s : ByteArray) (w : World) (hs : s.size < 9223372036854775807) (hT : Tabs w) :
    Calls Tryd.prog 14 #[.string s] w fun e w' => e = .returned (.int .i64 (labE s.data.toList)) ∧ Below w.heap.size w w' := by
  have cT := text_any hV s w hs hT
  have hle : ((toks s.data.toList).length : Int) ≤ s.size := by
    have := toks_len_le s.data.toList
    rw [Array.length_toList] at this
    exact Int.ofNat_le.2 this
  unfold labE
  generalize okT s.data.toList = V at cT ⊢
  cases V
  · rw [if_pos rfl]
    go_enter Tryd.func14, Tryd.ntmps14
    go_wp2_with (go_at_call 23; refine cT.mono ?_; rintro e w' ⟨rfl, hb⟩)
    go_ret
    exact ⟨rfl, hb⟩
  · rw [if_neg (by simp)]
    have cR := fun w1 => runes_any s w1 hs
    generalize (toks s.data.toList).length = n at cR ⊢
    by_cases h : 6 < n
    · rw [if_pos h]
      have hi : (6 : Int) < (n : Int) := by omega
      go_enter Tryd.func14, Tryd.ntmps14
      go_wp2_with (first | (go_at_call 23; refine cT.mono ?_; rintro e w1 ⟨rfl, hb⟩) | (go_at_call 17; refine (cR _).mono ?_; rintro e w2 ⟨rfl, hb2⟩))
      go_ret
      exact ⟨rfl, hb.trans (hb2.mono hb.size)⟩
    · rw [if_neg h]
      have hi : ¬ (6 : Int) < (n : Int) := by omega
      go_enter Tryd.func14, Tryd.ntmps14
      go_wp2_with (first | (go_at_call 23; refine cT.mono ?_; rintro e w1 ⟨rfl, hb⟩) | (go_at_call 17; refine (cR _).mono ?_; rintro e w2 ⟨rfl, hb2⟩))
      go_ret
      exact ⟨rfl, hb.trans (hb2.mono hb.size)⟩
end Go.Proofs.YtmdimngihpbcnaaDoor.lbl
