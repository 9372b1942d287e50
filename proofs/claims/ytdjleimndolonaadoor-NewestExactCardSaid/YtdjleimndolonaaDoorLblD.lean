/-
  Bytes and Read of package label, each by its contract. Conditions: a text, a slice is shorter than 2^46 bytes; 'Tabs', 'ValidOk' as before.
-/
import Derived.Test.YtdjleimndolonaaDoorGLb
import Derived.Test.YtdjleimndolonaaDoorBytes
import Derived.Lib.Walk
import Derived.Laws.MakeOwn
namespace Go.Proofs.YtdjleimndolonaaDoor.lbl
open Go.RowKit Go.Lib

theorem u8_info : (Tryd.prog.info? 5).map (fun i => (i.zero, i.size, i.bytes)) = some (some (.int .u8 0), 1, 1) := by kernel_rfl
theorem t8 : T8 Tryd.prog 26 5 := by
  refine ⟨Tryd.underlying26, Tryd.underlying5, ?_⟩
  have h := u8_info
  cases hi : Tryd.prog.info? 5 with
  | none => rw [hi] at h; cases h
  | some i =>
    rw [hi] at h
    simp only [Option.map_some, Option.some.injEq, Prod.mk.injEq] at h
    exact ⟨i, rfl, h.1, h.2.1, h.2.2⟩

/-- The bytes of a label. -/
def encL (l : List UInt8) : List UInt8 := UInt8.ofNat l.length :: l
def SliceAns (base : Nat) (l : List UInt8) (e : Ending) (w' : World) : Prop := ∃ v, e = .returned (.tuple #[v, .int .i64 0]) ∧ Own w' base 5 v l

set_option maxRecDepth 100000 in
theorem bytes_not (hV : ValidOk) (s : ByteArray) (w : World) (hs : s.size < 9223372036854775807) (hT : Tabs w) (h : labE s.data.toList ≠ 0) :
    Calls Tryd.prog 53 #[.string s] w fun e w' => e = .returned (.tuple #[.slice none 0 0, .int .i64 (labE s.data.toList)]) ∧ Below w.heap.size w w' := by
  have cC := check_any hV s w hs hT
  generalize labE s.data.toList = n at cC h ⊢
  have hn : (n != 0) = true := by simpa using h
  have hn2 : (n == 0) = false := by simpa using h
  go_enter Tryd.func53, Tryd.ntmps53
  go_wp2_with (go_at_call 75; refine cC.mono ?_; rintro e w' ⟨rfl, hb⟩)
  go_ret2
  exact ⟨rfl, hb⟩

set_option maxRecDepth 100000 in
set_option maxHeartbeats 1000000 in
theorem bytes_ok (hV : ValidOk) (s : ByteArray) (w : World) (hs : s.size ≤ 65536) (hT : Tabs w) (h : labE s.data.toList = 0) :
    Calls Tryd.prog 53 #[.string s] w fun e w' => SliceAns w.heap.size (encL s.data.toList) e w' ∧ Below w.heap.size w w' := by
  have cC := check_any hV s w (by omega) hT
  rw [h] at cC
  clear h
  obtain ⟨i, hi, hz, h1, hb8⟩ := t8.2.2
  have hmk : ∀ W : World, (Instr.makeSlice 26 (.int .i64 0) (.int .i64 (1 + (s.size : Int)))).run Tryd.prog W = .ok (.slice (some ⟨W.heap.size, 0, none⟩) 0 (1 + s.size)) (W.alloc (.cells (madeCells (Value.int .u8 0).cells (1 + s.size)) 5)) := fun W => by
    have hr := run_make (P := Tryd.prog) W 26 5 i (.int .u8 0) Tryd.underlying26 hi hz .i64 .i64 0 (1 + (s.size : Int)) (by omega) (by omega) (by rw [hb8]; omega) (by omega)
    simpa [show ((1 : Int) + (s.size : Int)).toNat = 1 + s.size by omega, h1] using hr
  clear hi hz h1 hb8
  have hcast : ((s.size : Int) % 256) = ((UInt8.ofNat s.data.toList.length).toNat : Int) := by rw [size_list]; simp
  have H8 := Lib.hid hcast
  clear hcast
  have hm : (madeCells #[Value.int .u8 0] (1 + s.size)).size = 1 + s.size := by simp [madeCells]
  have HM := Lib.hid hm
  clear hm
  go_enter Tryd.func53, Tryd.ntmps53
  go_wp2_with (first
    | (go_at_call 75; refine cC.mono ?_; rintro e w1 ⟨rfl, hb⟩)
    | (at_builtin
       refine wpList_app8 _ rfl (.tmp 15) (.tmp 19) _ _ rfl w1.heap.size 5 t8 (.slice (some ⟨w1.heap.size, 0, none⟩) 0 (1 + s.size)) [] rfl ((own_made w1 _ (1 + s.size) _ _ (Nat.le_refl _) ?_ HM.out).alloc _) _ _ rfl (src_one _ Tryd.underlying26 _ _ H8.out _ _ ?_) ?_ ?_ ?_
       · simp only [maxLen]; omega
       · simp
       · simp
       · simp; omega
       intro v2 w2 hown2 hg2 hat2)
    | (at_builtin
       refine wpList_app8 _ rfl (.tmp 21) (.tmp 22) _ _ rfl w1.heap.size 5 t8 v2 _ rfl hown2 _ _ rfl (src_str _ Tryd.underlying9 s) ?_ ?_ ?_
       · simp; omega
       · have := hg2.size
         simp at this
         omega
       intro v3 w3 hown3 hg3 hat3))
  go_ret2
  refine ⟨⟨v3, rfl, hown3.less hb.size⟩, ?_⟩
  have hs2 := hg2.size
  have hB : w.heap.size ≤ w1.heap.size := hb.size
  have e2 : ∀ k, v2.ownBlock = some k → w1.heap.size ≤ k := fun k hk => by
    rcases hat2 with e | e <;> rw [e] at hk
    · simp [Value.ownBlock] at hk; omega
    · simp at hk; omega
  refine (((hb.alloc hB _).alloc (by simp; omega) _).grown hg2 (by simp; omega) (fun k hk => ?_)).grown hg3 (by simp at hs2; omega) (fun k hk => Nat.le_trans hB (e2 k hk))
  simp [Value.ownBlock] at hk
  omega

/-- What Read answers: nothing, or the text and its bytes' number. -/
def readL (l : List UInt8) : Option (List UInt8) :=
  match l with
  | [] => none
  | n :: r => if r.length < n.toNat then none else if labE (r.take n.toNat) = 0 then some (r.take n.toNat) else none

set_option maxRecDepth 100000 in
theorem read_empty (A : Option Addr) (c : Nat) (w : World) :
    Calls Tryd.prog 72 #[.slice A 0 c] w fun e w' => e = .returned (.tuple #[.string ⟨#[]⟩, .int .i64 0, .int .i64 4]) ∧ Below w.heap.size w w' := by
  go_enter Tryd.func72, Tryd.ntmps72
  go_wp2
  go_ret3
  exact ⟨rfl, Below.refl _ _⟩

set_option maxRecDepth 100000 in
theorem read_short (A : Option Addr) (c B : Nat) (n : UInt8) (r : List UInt8) (w : World) (hA : Sl w B A (n :: r)) (hn : r.length < n.toNat) :
    Calls Tryd.prog 72 #[.slice A (n :: r).length c] w fun e w' => e = .returned (.tuple #[.string ⟨#[]⟩, .int .i64 0, .int .i64 4]) ∧ Below w.heap.size w w' := by
  obtain ⟨b, off, rfl, hb, hc⟩ := hA (by simp)
  have h0 := hc 0 (by simp)
  rw [List.length_cons]
  have hx := n.toNat_lt
  simp only [Nat.add_zero, List.getElem_cons_zero] at h0
  generalize r.length = m at *
  have e0 : (((m + 1 : Nat) : Int) == 0) = false := beq_eq_false_iff_ne.2 (by omega)
  clear hc hA
  go_enter Tryd.func72, Tryd.ntmps72
  go_wp2
  go_ret3
  exact ⟨rfl, Below.refl _ _⟩

/-- The bytes behind the first one. -/
theorem Sl.tail {w : World} {B b off : Nat} {n : UInt8} {r : List UInt8} (h : Sl w B (some ⟨b, off, none⟩) (n :: r)) (k : Nat) : Sl w B (some ⟨b, off + 1, none⟩) (r.take k) := fun hl => by
  obtain ⟨b', off', he, hb, hc⟩ := h (by simp)
  simp only [Option.some.injEq, Addr.mk.injEq, and_true] at he
  obtain ⟨rfl, rfl⟩ := he
  refine ⟨b, off + 1, rfl, hb, fun j hj => ?_⟩
  rw [List.length_take] at hj
  have := hc (j + 1) (by rw [List.length_cons]; omega)
  rw [show off + (j + 1) = off + 1 + j by omega] at this
  rw [this]
  simp

def ReadAns (B : Nat) (n : Nat) (t : List UInt8) (w : World) (e : Ending) (w' : World) : Prop :=
  ∃ S : ByteArray, S.data.toList = t ∧ (e = .returned (if labE t = 0 then .tuple #[.string S, .int .i64 (1 + n), .int .i64 0] else .tuple #[.string ⟨#[]⟩, .int .i64 0, .int .i64 4])) ∧ Below B w w'

set_option maxHeartbeats 1000000 in
set_option maxRecDepth 100000 in
theorem read_go (hV : ValidOk) (b off c m : Nat) (n : UInt8) (S : ByteArray) (w : World) (hT : Tabs w) (h0 : w.cell? ⟨b, off, none⟩ = some (by8 n)) (hcap : m + 1 ≤ c) (h1 : 1 < c) (hmax : c ≤ maxLen) (hn : n.toNat ≤ m)
    (hcv : (convert 26 9 (.slice (some ⟨b, off + 1, none⟩) n.toNat (c - 1))).run Tryd.prog w = .ok (.string S) w) (hS : S.size ≤ 256) :
    Calls Tryd.prog 72 #[.slice (some ⟨b, off, none⟩) (m + 1) c] w (ReadAns w.heap.size n.toNat S.data.toList w) := by
  have hx := n.toNat_lt
  have cC := check_any hV S w (by omega) hT
  unfold maxLen at hmax
  have e0 : (((m + 1 : Nat) : Int) == 0) = false := beq_eq_false_iff_ne.2 (by omega)
  generalize hE : labE S.data.toList = E at cC
  have HE := Lib.hid hE
  clear hE
  by_cases hz : E = 0
  · subst hz
    go_enter Tryd.func72, Tryd.ntmps72
    go_wp2_with (go_at_call 75; refine cC.mono ?_; rintro e w1 ⟨rfl, hb⟩)
    go_ret3
    exact ⟨S, rfl, by rw [if_pos HE.out]; rfl, hb⟩
  · have hz1 : (E != 0) = true := bne_iff_ne.2 hz
    have hz2 : (E == 0) = false := beq_eq_false_iff_ne.2 hz
    go_enter Tryd.func72, Tryd.ntmps72
    go_wp2_with (go_at_call 75; refine cC.mono ?_; rintro e w1 ⟨rfl, hb⟩)
    go_ret3
    exact ⟨S, rfl, by rw [if_neg (by rw [HE.out]; exact hz)]; rfl, hb⟩

set_option maxRecDepth 100000 in
theorem read_any (hV : ValidOk) (A : Option Addr) (c B : Nat) (n : UInt8) (r : List UInt8) (w : World) (hT : Tabs w) (hA : Sl w B A (n :: r)) (hcap : r.length + 1 ≤ c) (hmax : c ≤ maxLen) (hn : n.toNat ≤ r.length) :
    Calls Tryd.prog 72 #[.slice A (n :: r).length c] w (ReadAns w.heap.size n.toNat (r.take n.toNat) w) := by
  have hA' := hA
  obtain ⟨b, off, rfl, hb, hc⟩ := hA (by simp)
  have h0 := hc 0 (by simp)
  simp only [Nat.add_zero, List.getElem_cons_zero] at h0
  have hx := n.toNat_lt
  have hl : (r.take n.toNat).length = n.toNat := by rw [List.length_take]; omega
  have e : ((⟨(r.take n.toNat).toArray⟩ : ByteArray)).data.toList = r.take n.toNat := rfl
  have hz : ((⟨(r.take n.toNat).toArray⟩ : ByteArray)).size ≤ 256 := by rw [← size_list, e, hl]; omega
  rw [List.length_cons]
  by_cases h1 : 1 < c
  · have hcv := run_str (P := Tryd.prog) (Sl.tail hA' n.toNat) 26 9 5 Tryd.underlying26 Tryd.underlying5 Tryd.underlying9 (c - 1)
    rw [hl] at hcv
    have := read_go hV b off c r.length n ⟨(r.take n.toNat).toArray⟩ w hT h0 hcap h1 hmax hn hcv hz
    rwa [e] at this
  · have hc1 : c = 1 := by omega
    have hr : r = [] := List.eq_nil_of_length_eq_zero (by omega)
    have hn0 : n.toNat = 0 := by subst hr; simpa using hn
    have hn1 : n = 0 := UInt8.toNat_inj.1 (by simpa using hn0)
    subst hr hc1 hn1
    clear hA' hA hc
    have cC := check_any hV ⟨#[]⟩ w (by show 0 < _; omega) hT
    have hE : labE ((⟨#[]⟩ : ByteArray)).data.toList = 0 := by decide
    rw [hE] at cC
    have hcv := run_str (P := Tryd.prog) (Sl.nil w B (some ⟨b, off, none⟩)) 26 9 5 Tryd.underlying26 Tryd.underlying5 Tryd.underlying9 0
    simp only [List.length_nil] at hcv
    go_enter Tryd.func72, Tryd.ntmps72
    go_wp2_with (go_at_call 75; refine cC.mono ?_; rintro e w1 ⟨rfl, hb⟩)
    go_ret3
    exact ⟨⟨#[]⟩, rfl, by rfl, by assumption⟩
end Go.Proofs.YtdjleimndolonaaDoor.lbl
