/-
  Package anchor's functions as the laws call them: each by its contract, for every input. Conditions: 'ValidOk', 'CloneOk', 'Tabs' as package label's contracts ask (proved apart); texts and bytes shorter than 2^32.
-/
import Derived.Test.YtkpbfhjpmhgmoaaDoorAnS
import Derived.Test.YtkpbfhjpmhgmoaaDoorLblRef
import Derived.Test.YtkpbfhjpmhgmoaaDoorAnH
import Derived.Test.YtkpbfhjpmhgmoaaDoorGGm
namespace Go.Proofs.YtkpbfhjpmhgmoaaDoor.anc
open Go.RowKit Go.Lib
open Go.Proofs.YtkpbfhjpmhgmoaaDoor.gmt (Ok five_new check_ok check_no)
open Go.Proofs.YtkpbfhjpmhgmoaaDoor.lbl (encL readL labE lab_len ValidOk CloneOk Tabs bytes_ok ref_label)

theorem tn {w w' : World} (h : Tabs w) (hb : Below w.heap.size w w') : Tabs w' := h.next hb
theorem check_p (hV : ValidOk) (z d s l a : Int) (c : Bool) (x : AV) (w : World) (hT : Tabs w) (ho : Ok z d s l a) (hx : x.In w w.heap.size) (hlab : x.lab.size ≤ 4294967296) (hc : c = true ↔ Good z d s l x.d) :
    Calls Tryd.prog 15 #[.agg #[.int .i64 z, .int .i64 d, .int .i64 s, .int .i64 l, .int .i64 a], x.v] w fun e w' => e = .returned (.int .i64 (errC c)) ∧ Below w.heap.size w w' :=
  check_any c z d s l a (labE x.lab.data.toList) x w ho hx (fun W hW => lbl.check_any hV x.lab W (by omega) (tn hT hW)) hc
theorem right_p (z d s l a : Int) (c : Bool) (x : AV) (w : World) (ho : Ok z d s l a) (hx : x.In w w.heap.size) (hn : x.hs.length ≤ 1048576) (ht : HShort 1048576 x.hs) (hlab : x.lab.size ≤ 4294967296) (hc : c = true ↔ Good z d s l x.d) :
    Calls Tryd.prog 21 #[.agg #[.int .i64 z, .int .i64 d, .int .i64 s, .int .i64 l, .int .i64 a], x.v] w fun e w' => e = .returned (.bool c) ∧ Below w.heap.size w w' :=
  right_any c z d s l a (labE x.lab.data.toList) x w ho hx hn ht (fun W => (ref_label x.lab W (by omega)).mono fun e w' h => ⟨h.1, by rw [← h.2]; exact Below.refl _ _⟩) hc
theorem bytes_yes (hV : ValidOk) (z d s l a : Int) (x : AV) (w : World) (hT : Tabs w) (ho : Ok z d s l a) (hx : x.In w w.heap.size) (hg : Good z d s l x.d) :
    Calls Tryd.prog 12 #[.agg #[.int .i64 z, .int .i64 d, .int .i64 s, .int .i64 l, .int .i64 a], x.v] w fun e w' => PutQ w.heap.size (encA x.d).length (encA x.d) e w' ∧ Below w.heap.size w w' := by
  have hl : x.lab.size ≤ 24 := by have := lab_len hg.2.2.2.2.2.2.1; rwa [size_list] at this
  obtain ⟨D, rfl⟩ : ∃ D : Nat, d = D := ⟨d.toNat, by have := ho.2.1; omega⟩
  exact bytesA_ok z s l a D x w ho hx hg (fun W hW => check_p hV z D s l a true x W (tn hT hW) ho (hx.next hW) (by omega) (iff_of_true rfl hg)) (fun W hW => bytes_ok hV x.lab W (by omega) (tn hT hW) hg.2.2.2.2.2.2.1)
theorem bytes_not (hV : ValidOk) (z d s l a : Int) (x : AV) (w : World) (hT : Tabs w) (ho : Ok z d s l a) (hx : x.In w w.heap.size) (hlab : x.lab.size ≤ 4294967296) (hg : ¬ Good z d s l x.d) :
    Calls Tryd.prog 12 #[.agg #[.int .i64 z, .int .i64 d, .int .i64 s, .int .i64 l, .int .i64 a], x.v] w fun e w' => e = .returned (.tuple #[.slice none 0 0, .int .i64 1]) ∧ Below w.heap.size w w' :=
  bytes_no z d s l a 1 x w (by omega) fun W hW => check_p hV z d s l a false x W (tn hT hW) ho (hx.next hW) hlab (iff_of_false Bool.false_ne_true hg)
theorem bytes_geo (z d s l a : Int) (x : AV) (w : World) (ho : ¬ Ok z d s l a) :
    Calls Tryd.prog 12 #[.agg #[.int .i64 z, .int .i64 d, .int .i64 s, .int .i64 l, .int .i64 a], x.v] w fun e w' => e = .returned (.tuple #[.slice none 0 0, .int .i64 1]) ∧ Below w.heap.size w w' :=
  bytes_no z d s l a 1 x w (by omega) fun W _ => checkA_no z d s l a _ W ⟨x, rfl⟩ ho
theorem read_yes (hV : ValidOk) (z d s l a : Int) (A : Option Addr) (c n : Nat) (b : List UInt8) (x : Anc) (w : World) (hT : Tabs w) (ho : Ok z d s l a) (hn : b.length = n) (hA : Sl w w.heap.size A b) (hc : n ≤ c) (hm : c ≤ maxLen) (hl : n ≤ 4294967296) (hg : Good z d s l x) (hb : b = encA x) :
    Calls Tryd.prog 13 #[.agg #[.int .i64 z, .int .i64 d, .int .i64 s, .int .i64 l, .int .i64 a], .slice A n c] w fun e w' => AnsA w.heap.size x 0 e w' ∧ Below w.heap.size w w' := by
  have hlb : x.lab.size ≤ 24 := by have := lab_len hg.2.2.2.2.2.2.1; rwa [size_list] at this
  obtain ⟨o1, o2, -⟩ := id ho
  have hp := parsed_of (good_b ho hg) []
  obtain ⟨Z, rfl⟩ : ∃ Z : Nat, z = Z := ⟨z.toNat, by omega⟩
  obtain ⟨D, rfl⟩ : ∃ D : Nat, d = D := ⟨d.toNat, by omega⟩
  rw [List.append_nil, ← hb, Int.toNat_natCast, Int.toNat_natCast] at hp
  exact read_good Z D s l a A c n b x w ho hn hA hc hm hl (fun W hW l n A c h1 h2 h3 h4 => labRead_any hV l n A c _ W h1 (tn hT hW) h2 h3 h4) hp (by omega) (fun W hW t ht => lbl.check_any hV t W (by omega) (tn hT hW)) hg
theorem read_not (hV : ValidOk) (z d s l a : Int) (A : Option Addr) (c n : Nat) (b : List UInt8) (w : World) (hT : Tabs w) (ho : Ok z d s l a) (hn : b.length = n) (hA : Sl w w.heap.size A b) (hc : n ≤ c) (hm : c ≤ maxLen) (hl : n ≤ 4294967296) (hg : ∀ x, Good z d s l x → b ≠ encA x) :
    Calls Tryd.prog 13 #[.agg #[.int .i64 z, .int .i64 d, .int .i64 s, .int .i64 l, .int .i64 a], .slice A n c] w fun e w' => AnsA w.heap.size noAnc 4 e w' ∧ Below w.heap.size w w' := by
  obtain ⟨o1, o2, -⟩ := id ho
  obtain ⟨Z, rfl⟩ : ∃ Z : Nat, z = Z := ⟨z.toNat, by omega⟩
  obtain ⟨D, rfl⟩ : ∃ D : Nat, d = D := ⟨d.toNat, by omega⟩
  have cR : LabOk w := fun W hW l n A c h1 h2 h3 h4 => labRead_any hV l n A c _ W h1 (tn hT hW) h2 h3 h4
  cases hp : parsed Z D b with
  | none => exact read_none Z D s l a A c n b w ho hn hA hc hm hl cR hp
  | some q =>
    obtain ⟨x, r⟩ := q
    by_cases hr : 0 < r.length
    · exact read_rest Z D s l a A c n b x r w ho hn hA hc hm hl cR hp hr
    · obtain rfl : r = [] := List.eq_nil_of_length_eq_zero (by omega)
      obtain ⟨h1, -, -, h4⟩ := parsed_sound hp
      have hlb := lab_len h4
      rw [size_list] at hlb
      exact read_bad Z D s l a A c n b x w ho hn hA hc hm hl cR hp (by omega) (fun W hW t ht => lbl.check_any hV t W (by omega) (tn hT hW)) fun h => hg x h (by rw [h1, List.append_nil])
theorem first_yes (hV : ValidOk) (z d s l a : Int) (hC : CloneOk) (lab : ByteArray) (w : World) (hT : Tabs w) (ho : Ok z d s l a) (hs : lab.size ≤ 4294967296) (hE : labE lab.data.toList = 0) :
    Calls Tryd.prog 11 #[.agg #[.int .i64 z, .int .i64 d, .int .i64 s, .int .i64 l, .int .i64 a], .string lab] w fun e w' => AnsA w.heap.size (firstA z d lab) 0 e w' ∧ Below w.heap.size w w' := by
  obtain ⟨o1, o2, -⟩ := id ho
  obtain ⟨Z, rfl⟩ : ∃ Z : Nat, z = Z := ⟨z.toNat, by omega⟩
  obtain ⟨D, rfl⟩ : ∃ D : Nat, d = D := ⟨d.toNat, by omega⟩
  refine first_ok Z D s l a lab w ho (fun W hW => ?_) (fun W => lbl.clone_any hC lab W (by omega))
  have := lbl.check_any hV lab W (by omega) (tn hT hW)
  rwa [hE] at this
theorem first_err (hV : ValidOk) (z d s l a : Int) (lab : ByteArray) (w : World) (hT : Tabs w) (ho : Ok z d s l a) (hs : lab.size ≤ 4294967296) (hE : labE lab.data.toList ≠ 0) :
    Calls Tryd.prog 11 #[.agg #[.int .i64 z, .int .i64 d, .int .i64 s, .int .i64 l, .int .i64 a], .string lab] w fun e w' => AnsA w.heap.size noAnc (labE lab.data.toList) e w' ∧ Below w.heap.size w w' :=
  first_lab z d s l a (labE lab.data.toList) lab w ho hE fun W hW => lbl.check_any hV lab W (by omega) (tn hT hW)

/-- A new anchor is right. -/
theorem upto_get {q i : Nat} (h : i < (upto q).length) : (upto q)[i] = (i : Int) := by simp [upto]
theorem first_good {z d s l a : Int} {lab : ByteArray} (ho : Ok z d s l a) (hE : labE lab.data.toList = 0) : Good z d s l (firstA z d lab) := by
  obtain ⟨o1, o2, o3, o4, -⟩ := ho
  refine ⟨by show (0 : Int) ≤ 1 ∧ (1 : Int) ≤ 4294967295; omega, by show (0 : Int) ≤ 0 ∧ (0 : Int) ≤ 4294967295; omega, by show (1 : Int) ≤ 1 ∧ (1 : Int) ≤ 4294967295; omega, by show (0 : Int) ≤ 0 ∧ (0 : Int) ≤ 4294967295; omega, by show (1 : Int) - 1 ≤ 0; omega, ⟨Int.le_refl _, by show (0 : Int) ≤ l - 1; omega⟩, hE, ?_, ?_⟩
  · show ((List.replicate z.toNat (newH d)).length : Int) = z
    rw [List.length_replicate]
    omega
  · intro h hh
    obtain rfl := List.eq_of_mem_replicate hh
    refine ⟨?_, ⟨Int.le_refl _, by show d + 1 ≤ d + 1 + s; omega⟩, by show (0 : Int) ≤ 0 ∧ (0 : Int) ≤ 4294967295; omega, fun i hi => ?_⟩
    · show ((upto (d.toNat + 1)).length : Int) = d + 1
      rw [upto_length]
      omega
    · have hi' : i < d.toNat + 1 := by have := hi; rwa [show (newH d).ps.length = d.toNat + 1 from upto_length _] at this
      refine ⟨?_, fun k hk => ?_⟩
      · show 0 ≤ (upto (d.toNat + 1))[i]'(by rw [upto_length]; exact hi') ∧ (upto (d.toNat + 1))[i]'(by rw [upto_length]; exact hi') ≤ d + 1 - 1
        rw [upto_get]
        omega
      · show (upto (d.toNat + 1))[k]'(by rw [upto_length]; omega) ≠ (upto (d.toNat + 1))[i]'(by rw [upto_length]; exact hi')
        rw [upto_get, upto_get]
        omega
theorem not_good_no {z d s l : Int} : ¬ Good z d s l noAnc := fun h => by
  have := h.2.2.1.1
  exact absurd this (by decide)
theorem some_zero (w : World) :
    Calls Tryd.prog 25 #[.int .i64 0, .int .i64 0, .int .i64 0, .int .i64 0, .int .i64 0] w fun e w' => e = .returned (.agg #[.int .i64 1, .int .i64 1, .int .i64 0, .int .i64 14, .int .i64 1]) ∧ Below w.heap.size w w' := by
  go_enter Tryd.func25, Tryd.ntmps25
  go_wp2
  obtain ⟨g0, g1, g2, g3, g4⟩ := five_new w 1 1 0 14 1
  exact bodyPost_ret (v := .agg #[.int .i64 1, .int .i64 1, .int .i64 0, .int .i64 14, .int .i64 1]) (by simp [results, Tryd.results25, go_sem, g0, g1, g2, g3, g4]) rfl ⟨rfl, bl w _⟩
end Go.Proofs.YtkpbfhjpmhgmoaaDoor.anc
