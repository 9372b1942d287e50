/-
  The document's own answers for labels (as the statements' package gives them), each by its contract. Conditions: texts shorter than 2^47 bytes, slices shorter than 2^46.
-/
import Derived.Test.YtdjleimndolonaaDoorGLr
import Derived.Deep.QuietTactic
import Derived.BigQuiet
namespace Go.Proofs.YtdjleimndolonaaDoor.lbl
open Go.RowKit Go.Lib

theorem below_dn {B : Nat} {a w : World} (h : Below B a w) (n : Nat) : Below B a (w.drewN n) := ⟨h.os, h.tape, h.output, h.size, h.block⟩
theorem dec_ext (s : ByteArray) (pos : Nat) : Utf8.decode (s.extract pos s.size) 0 = Utf8.decode s pos := by
  rw [← decodeL_drop, ← decodeL_drop, List.drop_zero, ext_drop]
theorem dec_fits (s : ByteArray) (pos : Nat) (h : pos < s.size) : pos + (Utf8.decode s pos).2 ≤ s.size := by
  rw [← decodeL_drop]
  have hne : s.data.toList.drop pos ≠ [] := by
    intro k
    have := congrArg List.length k
    rw [List.length_drop, size_list, List.length_nil] at this
    omega
  have := dec_le _ hne
  rw [List.length_drop, size_list] at this
  omega
/-- One step of the document's way through a text. -/
theorem step_any (s : ByteArray) (pos : Nat) (hs : s.size ≤ maxLen) (h : pos < s.size) : ∃ P Q : Int, (∀ W : World, Calls Tryd.prog 63 #[.string (s.extract pos s.size)] W fun e w' => e = .returned (.tuple #[.int .i64 P, .int .i64 Q]) ∧ W = w') ∧
    max P 1 = ((Utf8.decode s pos).2 : Int) ∧ ((bad (Utf8.decode s pos) = true ∧ P = 0 ∧ Q = 0) ∨ (bad (Utf8.decode s pos) = false ∧ P = ((Utf8.decode s pos).2 : Int) ∧ Q = ((Utf8.decode s pos).1 : Int))) := by
  have hw := width_pos s pos
  have hz : (s.extract pos s.size).size = s.size - pos := by rw [ByteArray.size_extract]; omega
  refine ⟨(oneA (Utf8.decode s pos)).1, (oneA (Utf8.decode s pos)).2, fun W => ?_, ?_, ?_⟩
  · have := rune_any (s.extract pos s.size) W (by omega) (by omega)
    unfold oneB at this
    rw [dec_ext] at this
    exact this.mono fun _ _ h => h
  · unfold oneA
    split
    · have : (Utf8.decode s pos).2 = 1 := by
        rename_i hb
        simp only [bad, Bool.and_eq_true, beq_iff_eq] at hb
        exact hb.2
      rw [this]
      decide
    · show max ((Utf8.decode s pos).2 : Int) 1 = _
      omega
  · unfold oneA
    split
    · exact .inl ⟨by assumption, rfl, rfl⟩
    · exact .inr ⟨(Bool.not_eq_true _).mp (by assumption), rfl, rfl⟩

set_option maxHeartbeats 1000000 in
set_option maxRecDepth 100000 in
theorem ref_label (s : ByteArray) (w : World) (hs : s.size ≤ 281474976710656) :
    Calls Tryd.prog 39 #[.string s] w fun e w' => e = .returned (.int .i64 (labE s.data.toList)) ∧ w = w' := by
  obtain ⟨ANS, hANS⟩ : ∃ ANS, labE s.data.toList = ANS := ⟨_, rfl⟩
  rw [hANS]
  have HA := Lib.hid hANS
  clear hANS
  go_enter Tryd.func39, Tryd.ntmps39
  go_wp2
  go_loop [3, 4, 5, 6] (fun n i _ _ => ∃ pos acc : Nat, i = .int .i64 pos ∧ n = .int .i64 acc ∧ pos ≤ s.size ∧ acc ≤ pos ∧ acc + (toks (s.data.toList.drop pos)).length = (toks s.data.toList).length ∧ okT s.data.toList = okT (s.data.toList.drop pos)) (fun _ i _ _ => s.size - (RowKit.intOf i).toNat)
  case atStart => exact ⟨0, 0, rfl, rfl, by omega, by omega, by simp, by simp⟩
  case round =>
    obtain ⟨pos, acc, rfl, rfl, hp, ha, hc, hk⟩ := hrel
    by_cases hlt : pos < s.size
    · obtain ⟨P, Q, cR, -, hPQ⟩ := step_any s pos (by unfold maxLen; omega) hlt
      have hf := dec_fits s pos hlt
      have hw := width_pos s pos
      have hst := drop_step s pos hlt
      have hok : okT s.data.toList = (!bad (Utf8.decode s pos) && fine (Utf8.decode s pos) && okT (s.data.toList.drop (pos + (Utf8.decode s pos).2))) := by
        rw [hk]
        unfold okT
        rw [hst, List.all_cons]
      rw [hst, List.length_cons] at hc
      clear hst hk
      have HO := Lib.hid hok
      have H := Lib.hid hc
      clear hc hok
      rcases hPQ with ⟨hb, rfl, rfl⟩ | ⟨hb, rfl, rfl⟩
      · have hA : Hid (ANS = 3) := by
          have := HO.out
          rw [hb] at this
          rw [← HA.out]
          unfold labE
          rw [if_pos (by simpa using this)]
          exact rfl
        have HB := Lib.hid hb
        clear hb
        go_wp2_with (go_at_call 63; (with_reducible refine (cR _).mono ?_); rintro e w' ⟨rfl, rfl⟩)
        go_ret
        exact ⟨ret_int hA.out.symm, rfl⟩
      · have HB := Lib.hid hb
        clear hb
        have hz : (((Utf8.decode s pos).2 : Int) == 0) = false := beq_eq_false_iff_ne.2 (by omega)
        by_cases hfin : fine (Utf8.decode s pos) = true
        · have hO2 : Hid (okT s.data.toList = okT (s.data.toList.drop (pos + (Utf8.decode s pos).2))) := by
            have := HO.out
            rw [HB.out, hfin] at this
            exact Lib.hid (by simpa using this)
          have h32 : 32 ≤ (Utf8.decode s pos).1 ∧ (Utf8.decode s pos).1 ≠ 127 := by
            unfold fine at hfin
            simpa using hfin
          have q1 : ¬ (((Utf8.decode s pos).1 : Int) < 32) := by omega
          have q2 : (((Utf8.decode s pos).1 : Int) == 127) = false := beq_eq_false_iff_ne.2 (by omega)
          clear hfin h32
          go_wp2_with (go_at_call 63; (with_reducible refine (cR _).mono ?_); rintro e w' ⟨rfl, rfl⟩)
          go_round
          case rel => exact ⟨pos + (Utf8.decode s pos).2, acc + 1, by go_num, by go_num, by omega, by omega, by have := H.out; omega, hO2.out⟩
          case measure => simp [RowKit.intOf]; omega
        · have hA : Hid (ANS = 3) := by
            have := HO.out
            rw [HB.out, show fine (Utf8.decode s pos) = false by simpa using hfin] at this
            rw [← HA.out]
            unfold labE
            rw [if_pos (by simpa using this)]
            exact rfl
          by_cases h32 : (Utf8.decode s pos).1 < 32
          · have q1 : (((Utf8.decode s pos).1 : Int) < 32) := by omega
            clear hfin
            go_wp2_with (go_at_call 63; (with_reducible refine (cR _).mono ?_); rintro e w' ⟨rfl, rfl⟩)
            go_ret
            exact ⟨ret_int hA.out.symm, rfl⟩
          · have q1 : ¬ (((Utf8.decode s pos).1 : Int) < 32) := by omega
            have q127 : (Utf8.decode s pos).1 = 127 := by
              unfold fine at hfin
              simp at hfin
              exact hfin (by omega)
            have q2 : (((Utf8.decode s pos).1 : Int) == 127) = true := beq_iff_eq.2 (by omega)
            have q3 : ((Utf8.decode s pos).1 == 127) = true := beq_iff_eq.2 q127
            clear hfin q127
            go_wp2_with (go_at_call 63; (with_reducible refine (cR _).mono ?_); rintro e w' ⟨rfl, rfl⟩)
            go_ret
            exact ⟨ret_int hA.out.symm, rfl⟩
    · have hnil : s.data.toList.drop pos = [] := List.drop_eq_nil_of_le (by rw [size_list]; omega)
      rw [hnil] at hk hc
      simp only [toks_nil, List.length_nil, Nat.add_zero] at hc
      have hA : Hid (ANS = if 6 < acc then 2 else 0) := by
        rw [← HA.out, lab_of (by rw [hk]; rfl), ← hc]
        exact rfl
      clear hk hc hnil
      by_cases h6 : 6 < acc
      · have i6 : (6 : Int) < (acc : Int) := by omega
        go_wp2
        go_ret
        exact ⟨ret_int (by rw [hA.out, if_pos h6]), rfl⟩
      · have i6 : ¬ (6 : Int) < (acc : Int) := by omega
        go_wp2
        go_ret
        exact ⟨ret_int (by rw [hA.out, if_neg h6]), rfl⟩

set_option maxRecDepth 100000 in
theorem ref_bytes (s : ByteArray) (w : World) (hs : s.size ≤ 65536) :
    Calls Tryd.prog 43 #[.string s] w fun e w' => One w.heap.size (encL s.data.toList) e w' ∧ Below w.heap.size w w' := by
  have hcast : ((s.size : Int) % 256) = ((UInt8.ofNat s.data.toList.length).toNat : Int) := by rw [size_list]; simp
  have H8 := Lib.hid hcast
  clear hcast
  have hown : Own (w.alloc (.cells #[.int .u8 ((s.size : Int) % 256)] 5)) w.heap.size 5 (.slice (some ⟨w.heap.size, 0, none⟩) 1 1) [UInt8.ofNat s.data.toList.length] := by
    refine ⟨by simp [cells8], .inr ⟨w.heap.size, 1, _, rfl, Nat.le_refl _, heap_alloc_new w _, Nat.le_refl _, by simp only [maxLen]; omega, by simp, ?_⟩⟩
    simp only [cells8, by8, List.map_cons, List.map_nil, H8.out]
    rfl
  go_enter Tryd.func43, Tryd.ntmps43
  go_wp2_with (first
    | (at_builtin
       refine wpList_app8 _ rfl (.tmp 6) (.tmp 7) _ _ rfl w.heap.size 5 t8 (.slice (some ⟨w.heap.size, 0, none⟩) 1 1) _ rfl hown _ _ rfl (src_str _ Tryd.underlying9 s) ?_ ?_ ?_
       · simp; omega
       · simp
       intro v2 w2 hown2 hg2 hat2))
  go_ret
  exact ⟨⟨v2, rfl, hown2⟩, ((Below.refl _ _).alloc (Nat.le_refl _) _).grown hg2 (by simp) (fun k hk => by simp [Value.ownBlock] at hk; omega)⟩

set_option maxRecDepth 100000 in
/-- What the document's reader answers. -/
theorem refread_empty (A : Option Addr) (c : Nat) (w : World) :
    Calls Tryd.prog 62 #[.slice A 0 c] w fun e w' => e = .returned (.tuple #[.string ⟨#[]⟩, .int .i64 0]) ∧ Below w.heap.size w w' := by
  go_enter Tryd.func62, Tryd.ntmps62
  go_wp2
  go_ret2
  exact ⟨rfl, Below.refl _ _⟩
set_option maxRecDepth 100000 in
theorem refread_short (A : Option Addr) (c B : Nat) (n : UInt8) (r : List UInt8) (w : World) (hA : Sl w B A (n :: r)) (hn : r.length < n.toNat) :
    Calls Tryd.prog 62 #[.slice A (n :: r).length c] w fun e w' => e = .returned (.tuple #[.string ⟨#[]⟩, .int .i64 0]) ∧ Below w.heap.size w w' := by
  obtain ⟨b, off, rfl, hb, hc⟩ := hA (by simp)
  have h0 := hc 0 (by simp)
  rw [List.length_cons]
  have hx := n.toNat_lt
  simp only [Nat.add_zero, List.getElem_cons_zero] at h0
  generalize r.length = m at *
  have e0 : (((m + 1 : Nat) : Int) == 0) = false := beq_eq_false_iff_ne.2 (by omega)
  clear hc hA
  go_enter Tryd.func62, Tryd.ntmps62
  go_wp2
  go_ret2
  exact ⟨rfl, Below.refl _ _⟩

def RefAns (B : Nat) (t : List UInt8) (w : World) (e : Ending) (w' : World) : Prop :=
  ∃ S : ByteArray, S.data.toList = t ∧ (e = .returned (if labE t = 0 then .tuple #[.string S, .int .i64 (1 + (S.size : Int))] else .tuple #[.string ⟨#[]⟩, .int .i64 0])) ∧ Below B w w'

set_option maxRecDepth 100000 in
set_option maxHeartbeats 1000000 in
theorem refread_go (b off c m : Nat) (n : UInt8) (S : ByteArray) (w : World) (h0 : w.cell? ⟨b, off, none⟩ = some (by8 n)) (hcap : m + 1 ≤ c) (h1 : 1 < c) (hmax : c ≤ maxLen) (hn : n.toNat ≤ m)
    (hcv : (convert 26 9 (.slice (some ⟨b, off + 1, none⟩) n.toNat (c - 1))).run Tryd.prog w = .ok (.string S) w) (hS : S.size ≤ 256) :
    Calls Tryd.prog 62 #[.slice (some ⟨b, off, none⟩) (m + 1) c] w (RefAns w.heap.size S.data.toList w) := by
  have hx := n.toNat_lt
  have cC := ref_label S w (by omega)
  unfold maxLen at hmax
  have e0 : (((m : Int) + 1) == 0) = false := beq_eq_false_iff_ne.2 (by omega)
  have e1 : decide ((m : Int) + 1 < 1 + (n.toNat : Int)) = false := decide_eq_false (by omega)
  generalize hE : labE S.data.toList = E at cC
  have HE := Lib.hid hE
  clear hE
  by_cases hz : E = 0
  · subst hz
    go_enter Tryd.func62, Tryd.ntmps62
    go_wp2_with (go_at_call 39; (with_reducible refine cC.mono ?_); rintro e w1 ⟨rfl, rfl⟩)
    go_ret2
    exact ⟨S, rfl, by rw [if_pos HE.out]; rfl, Below.refl _ _⟩
  · have hz1 : (E != 0) = true := bne_iff_ne.2 hz
    have hz2 : (E == 0) = false := beq_eq_false_iff_ne.2 hz
    go_enter Tryd.func62, Tryd.ntmps62
    go_wp2_with (go_at_call 39; (with_reducible refine cC.mono ?_); rintro e w1 ⟨rfl, rfl⟩)
    go_ret2
    exact ⟨S, rfl, by rw [if_neg (by rw [HE.out]; exact hz)]; rfl, Below.refl _ _⟩

set_option maxRecDepth 100000 in
theorem refread_any (A : Option Addr) (c B : Nat) (n : UInt8) (r : List UInt8) (w : World) (hA : Sl w B A (n :: r)) (hcap : r.length + 1 ≤ c) (hmax : c ≤ maxLen) (hn : n.toNat ≤ r.length) :
    Calls Tryd.prog 62 #[.slice A (n :: r).length c] w (RefAns w.heap.size (r.take n.toNat) w) := by
  have hA' := hA
  obtain ⟨b, off, rfl, hb, hc⟩ := hA (by simp)
  have h0 := hc 0 (by simp)
  simp only [Nat.add_zero, List.getElem_cons_zero] at h0
  have hx := n.toNat_lt
  have hl : (r.take n.toNat).length = n.toNat := by rw [List.length_take]; omega
  have e : ((⟨(r.take n.toNat).toArray⟩ : ByteArray)).data.toList = r.take n.toNat := rfl
  have hz : ((⟨(r.take n.toNat).toArray⟩ : ByteArray)).size ≤ 256 := by rw [← size_list, e, hl]; omega
  rw [List.length_cons]
  by_cases h1 : 1 < c
  · have hcv := run_str (P := Tryd.prog) (Sl.tail hA' n.toNat) 26 9 5 Tryd.underlying26 Tryd.underlying5 Tryd.underlying9 (c - 1)
    rw [hl] at hcv
    have := refread_go b off c r.length n ⟨(r.take n.toNat).toArray⟩ w h0 hcap h1 hmax hn hcv hz
    rwa [e] at this
  · have hc1 : c = 1 := by omega
    have hr : r = [] := List.eq_nil_of_length_eq_zero (by omega)
    have hn0 : n.toNat = 0 := by subst hr; simpa using hn
    have hn1 : n = 0 := UInt8.toNat_inj.1 (by simpa using hn0)
    subst hr hc1 hn1
    clear hA' hA hc
    have cC := ref_label ⟨#[]⟩ w (by show 0 ≤ _; omega)
    have hE : labE ((⟨#[]⟩ : ByteArray)).data.toList = 0 := by decide
    rw [hE] at cC
    have hcv := run_str (P := Tryd.prog) (Sl.nil w B (some ⟨b, off, none⟩)) 26 9 5 Tryd.underlying26 Tryd.underlying5 Tryd.underlying9 0
    simp only [List.length_nil] at hcv
    go_enter Tryd.func62, Tryd.ntmps62
    go_wp2_with (go_at_call 39; (with_reducible refine cC.mono ?_); rintro e w1 ⟨rfl, rfl⟩)
    go_ret2
    exact ⟨⟨#[]⟩, rfl, by rfl, Below.refl _ _⟩

set_option maxHeartbeats 1000000 in
set_option maxRecDepth 100000 in
theorem keep_same (A A' : Option Addr) (c c' B B' : Nat) (l : List UInt8) (w : World) (hA : Sl w B A l) (hA' : Sl w B' A' l) (hB : B ≤ w.heap.size) (hB' : B' ≤ w.heap.size) (hl : l.length ≤ 1048576) :
    Calls Tryd.prog 20 #[.slice A l.length c, .slice A' l.length c'] w fun e w' => e = .returned (.bool true) ∧ Below w.heap.size w w' := by
  go_enter Tryd.func20, Tryd.ntmps20
  go_wp2
  go_loopw [5] (fun i w' => ∃ k : Nat, k ≤ l.length ∧ i = .int .i64 k ∧ Below w.heap.size w w') (fun i _ => l.length - (RowKit.intOf i).toNat)
  case atStart => exact ⟨0, by omega, rfl, Below.refl _ _⟩
  case round =>
    rename_i wr
    obtain ⟨k, hk, rfl, hbr⟩ := hrel
    by_cases hlt : k < l.length
    · obtain ⟨b, off, rfl, hb, hc⟩ := (hA.below (hbr.mono hB)) (by omega)
      obtain ⟨b', off', rfl, hb', hc'⟩ := (hA'.below (hbr.mono hB')) (by omega)
      have g := hc k hlt
      have g' := hc' k hlt
      have i1 : (k : Int) < (l.length : Int) := by omega
      clear hc hc' hA hA'
      go_wp2_with fail
      go_quiet (fail)
      go_wp2
      go_roundw
      case rel => exact ⟨k + 1, by omega, by go_num, below_dn hbr _⟩
      case measure => simp [RowKit.intOf]; omega
    · go_wp2
      go_ret
      exact ⟨rfl, hbr⟩
end Go.Proofs.YtdjleimndolonaaDoor.lbl
