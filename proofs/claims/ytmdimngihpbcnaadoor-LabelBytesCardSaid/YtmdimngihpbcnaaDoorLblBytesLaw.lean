/-
  The law LabelBytes, walked: it returns true for every text. Conditions: 'Tabs' (the library's two tables are as its text lays them).
-/
import Derived.Test.YtmdimngihpbcnaaDoorLblE
namespace Go.Proofs.YtmdimngihpbcnaaDoor.lbl
open Go.RowKit Go.Lib

theorem lb_long (s : ByteArray) (w : World) (h : 300 < s.size) (hs : s.size ≤ maxLen) :
    Calls Tryd.prog 8 #[.string s] w fun e w' => e = .returned (.bool true) ∧ Below w.heap.size w w' := by
  unfold maxLen at hs
  have hi : (300 : Int) < (s.size : Int) := by omega
  go_enter Tryd.func8, Tryd.ntmps8
  go_wp2
  go_ret
  exact ⟨rfl, Below.refl _ _⟩

set_option maxHeartbeats 2000000 in
set_option maxRecDepth 100000 in
theorem lb_not (hV : ValidOk) (hC : CloneOk) (s : ByteArray) (w : World) (h : s.size ≤ 300) (hT : Tabs w) (hE : labE s.data.toList ≠ 0) :
    Calls Tryd.prog 8 #[.string s] w fun e w' => e = .returned (.bool true) ∧ Below w.heap.size w w' := by
  have hi : ¬ (300 : Int) < (s.size : Int) := by omega
  have cB := bytes_not hV s w (by omega) hT hE
  have cC := fun W hW => check_any hV s W (by omega) hW
  generalize labE s.data.toList = E at cB cC hE
  have h1 : (E != 0) = true := bne_iff_ne.2 hE
  have h2 : (E == 0) = false := beq_eq_false_iff_ne.2 hE
  go_enter Tryd.func8, Tryd.ntmps8
  go_wp2_with (first
    | (go_at_call 10; refine cB.mono ?_; rintro e w1 ⟨rfl, hb1⟩)
    | (go_at_call 14; refine (cC _ (hT.next hb1)).mono ?_; rintro e w2 ⟨rfl, hb2⟩; have hb3 := bt hb1 hb2)
    | (go_at_call 21; refine (wakes_any hV hC _ (hT.next hb3)).mono ?_; rintro e w4 ⟨rfl, hb4⟩; have hb5 := bt hb3 hb4))
  go_ret
  exact ⟨rfl, hb5⟩

set_option maxHeartbeats 2000000 in
set_option maxRecDepth 100000 in
theorem lb_pos (hV : ValidOk) (hC : CloneOk) (s : ByteArray) (w : World) (h : s.size ≤ 300) (hz : 0 < s.size) (hT : Tabs w) (hE : labE s.data.toList = 0) :
    Calls Tryd.prog 8 #[.string s] w fun e w' => e = .returned (.bool true) ∧ Below w.heap.size w w' := by
  have hi : ¬ (300 : Int) < (s.size : Int) := by omega
  have h24 := lab_len hE
  have cB := bytes_ok hV s w (by omega) hT hE
  have cC := fun W hW => check_any hV s W (by omega) hW
  rw [hE] at cC
  rw [size_list] at h24
  have hx : ((UInt8.ofNat s.data.toList.length).toNat : Int) = (s.size : Int) := by rw [size_list]; simp; omega
  have HX := Lib.hid hx
  clear hx hE
  go_enter Tryd.func8, Tryd.ntmps8
  go_wp2_with (first
    | (go_at_call 10
       refine cB.mono ?_
       rintro e w1 ⟨⟨v, rfl, hown⟩, hb1⟩
       obtain ⟨A, c, hv, hc, hm, hs, -⟩ := hown.form
       have hen : (encL s.data.toList).length = s.size + 1 := by rw [encL, List.length_cons, size_list]
       rw [hen] at hv hc
       clear hen
       subst hv
       obtain ⟨b, off, rfl, hbs, -⟩ := hs (by simp [encL])
       unfold maxLen at hm
       have hc1 : 1 < c := by omega)
    | (go_at_call 14
       refine (cC _ (hT.next hb1)).mono ?_
       rintro e w2 ⟨rfl, hb2⟩
       have hb3 := bt hb1 hb2
       have hs2 : Sl w2 w1.heap.size (some ⟨b, off, none⟩) (encL s.data.toList) := hs.below hb2
       clear hs
       have k0 : w2.cell? ⟨b, off, none⟩ = some (.int .u8 (s.size : Int)) := by
         obtain ⟨b', off', he, _, hcell⟩ := hs2 (by simp [encL])
         simp only [Option.some.injEq, Addr.mk.injEq, and_true] at he
         obtain ⟨rfl, rfl⟩ := he
         have := hcell 0 (by simp [encL])
         simp only [Nat.add_zero, encL, List.getElem_cons_zero] at this
         rw [this]
         exact congrArg (fun n => some (Value.int .u8 n)) HX.out
       have k1 : (convert 22 9 (.slice (some ⟨b, off + 1, none⟩) s.size (c - 1))).run Tryd.prog w2 = .ok (.string s) w2 := by
         have k := run_str (P := Tryd.prog) (Sl.tail hs2 s.size) 22 9 5 Tryd.underlying22 Tryd.underlying5 Tryd.underlying9 (c - 1)
         rwa [List.take_of_length_le (by rw [size_list]; exact Nat.le_refl _), size_list] at k
       clear hs2)
    | (go_at_call 21; refine (wakes_any hV hC _ (hT.next hb3)).mono ?_; rintro e w4 ⟨rfl, hb4⟩; have hb5 := bt hb3 hb4))
  go_ret
  exact ⟨rfl, hb5⟩

set_option maxHeartbeats 2000000 in
set_option maxRecDepth 100000 in
theorem lb_zero (hV : ValidOk) (hC : CloneOk) (s : ByteArray) (w : World) (h : s.size ≤ 300) (hz : s.size = 0) (hT : Tabs w) (hE : labE s.data.toList = 0) :
    Calls Tryd.prog 8 #[.string s] w fun e w' => e = .returned (.bool true) ∧ Below w.heap.size w w' := by
  have hi : ¬ (300 : Int) < (s.size : Int) := by omega
  have h24 := lab_len hE
  have cB := bytes_ok hV s w (by omega) hT hE
  have cC := fun W hW => check_any hV s W (by omega) hW
  rw [hE] at cC
  rw [size_list] at h24
  have hx : ((UInt8.ofNat s.data.toList.length).toNat : Int) = (s.size : Int) := by rw [size_list]; simp; omega
  have HX := Lib.hid hx
  clear hx hE
  have HZ := Lib.hid hz
  clear hz
  go_enter Tryd.func8, Tryd.ntmps8
  go_wp2_with (first
    | (go_at_call 10
       refine cB.mono ?_
       rintro e w1 ⟨⟨v, rfl, hown⟩, hb1⟩
       obtain ⟨A, c, hv, hc, hm, hs, -⟩ := hown.form
       have hen : (encL s.data.toList).length = s.size + 1 := by rw [encL, List.length_cons, size_list]
       rw [hen] at hv hc
       clear hen
       subst hv
       obtain ⟨b, off, rfl, hbs, -⟩ := hs (by simp [encL])
       unfold maxLen at hm)
    | (go_at_call 14
       refine (cC _ (hT.next hb1)).mono ?_
       rintro e w2 ⟨rfl, hb2⟩
       have hb3 := bt hb1 hb2
       have hs2 : Sl w2 w1.heap.size (some ⟨b, off, none⟩) (encL s.data.toList) := hs.below hb2
       clear hs
       have k0 : w2.cell? ⟨b, off, none⟩ = some (.int .u8 (s.size : Int)) := by
         obtain ⟨b', off', he, _, hcell⟩ := hs2 (by simp [encL])
         simp only [Option.some.injEq, Addr.mk.injEq, and_true] at he
         obtain ⟨rfl, rfl⟩ := he
         have := hcell 0 (by simp [encL])
         simp only [Nat.add_zero, encL, List.getElem_cons_zero] at this
         rw [this]
         exact congrArg (fun n => some (Value.int .u8 n)) HX.out
       have k1 : (convert 22 9 (.slice (some ⟨b, off + 1, none⟩) s.size (c - 1))).run Tryd.prog w2 = .ok (.string s) w2 := by
         have k := run_str (P := Tryd.prog) (Sl.tail hs2 s.size) 22 9 5 Tryd.underlying22 Tryd.underlying5 Tryd.underlying9 (c - 1)
         rwa [List.take_of_length_le (by rw [size_list]; exact Nat.le_refl _), size_list] at k
       have k2 : (convert 22 9 (.slice (some ⟨b, off, none⟩) s.size 0)).run Tryd.prog w2 = .ok (.string s) w2 := by
         have k := run_str (P := Tryd.prog) (Sl.nil w2 0 (some ⟨b, off, none⟩)) 22 9 5 Tryd.underlying22 Tryd.underlying5 Tryd.underlying9 0
         have e : s = ⟨([] : List UInt8).toArray⟩ := by
           apply ByteArray.ext
           apply Array.ext'
           exact List.eq_nil_of_length_eq_zero (by rw [size_list]; exact HZ.out)
         rw [← e] at k
         rwa [HZ.out]
       clear hs2)
    | (go_at_call 21; refine (wakes_any hV hC _ (hT.next hb3)).mono ?_; rintro e w4 ⟨rfl, hb4⟩; have hb5 := bt hb3 hb4))
  all_goals go_ret
  all_goals exact ⟨rfl, hb5⟩

theorem labelBytes_law (hV : ValidOk) (hC : CloneOk) (s : ByteArray) (w : World) (hs : s.size ≤ maxLen) (hT : Tabs w) :
    Calls Tryd.prog 8 #[.string s] w fun e w' => e = .returned (.bool true) ∧ Below w.heap.size w w' := by
  by_cases h : 300 < s.size
  · exact lb_long s w h hs
  · by_cases hE : labE s.data.toList = 0
    · by_cases hz : 0 < s.size
      · exact lb_pos hV hC s w (by omega) hz hT hE
      · exact lb_zero hV hC s w (by omega) (by omega) hT hE
    · exact lb_not hV hC s w (by omega) hT hE
end Go.Proofs.YtmdimngihpbcnaaDoor.lbl
