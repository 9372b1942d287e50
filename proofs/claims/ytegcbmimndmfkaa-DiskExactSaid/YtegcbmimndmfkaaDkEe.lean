/-
  The document's disk: Fault. Conditions: a valid disk.
-/
import Derived.Test.YtegcbmimndmfkaaDkEa
import Derived.Test.YtegcbmimndmfkaaDkR
namespace Go.Proofs.Ytegcbmimndmfkaa.dsk
open Go.RowKit Go.Lib

set_option maxHeartbeats 4000000 in
theorem rfault_none (y : DV) (kind a fr bit bits : Int) (base g : Nat) (w : World) (h : RefD w base g y) (hv : Valid y.d) (hh : ¬ HasC y.d a) :
    Calls Try.prog 27 #[.pointer (some ⟨g, 0, none⟩), .int .i64 kind, .int .i64 a, .int .i64 fr, .int .i64 bit, .int .i64 bits] w fun e w' => e = .returned (.int .i64 1) ∧ (∃ z : DV, z.d = y.d ∧ RefD w' base g z) ∧ Below base w w' := by
  have hln : y.cs.length ≤ 300 := by have h1 := hv.1.1.2.1; rwa [show y.d.cells.length = y.cs.length from cds_length _] at h1
  have lo := h.lo
  obtain ⟨c0, c1, c2, c3, f0, f1, f2, f3⟩ := id h.r
  have HH := Lib.hid h
  have hcl : y.d.cells.length = y.cs.length := cds_length _
  have cI := in_any a 0 ((y.cs.length : Int) - 1) w false (decide_eq_false fun k => hh ⟨k.1, by rw [hcl]; omega⟩)
  clear h hv
  go_enter Try.func27, Try.ntmps27
  go_wp2_with (first | (go_at_call 39; (with_reducible refine cI.mono ?_); rintro e w1 ⟨rfl, rfl⟩))
  go_ret
  exact ⟨rfl, ⟨_, rfl, HH.out⟩, Below.refl _ _⟩
set_option maxHeartbeats 4000000 in
theorem rfault_place (y : DV) (kind a fr bit bits : Int) (base g : Nat) (w : World) (h : RefD w base g y) (hv : Valid y.d) (hh : HasC y.d a) (hc : 0 < y.ws.length) :
    Calls Try.prog 27 #[.pointer (some ⟨g, 0, none⟩), .int .i64 kind, .int .i64 a, .int .i64 fr, .int .i64 bit, .int .i64 bits] w fun e w' => e = .returned (.int .i64 9) ∧ (∃ z : DV, z.d = y.d ∧ RefD w' base g z) ∧ Below base w w' := by
  have hln : y.cs.length ≤ 300 := by have h1 := hv.1.1.2.1; rwa [show y.d.cells.length = y.cs.length from cds_length _] at h1
  have lo := h.lo
  obtain ⟨c0, c1, c2, c3, f0, f1, f2, f3⟩ := id h.r
  have HH := Lib.hid h
  have hcl : y.d.cells.length = y.cs.length := cds_length _
  obtain ⟨ka, hka⟩ : ∃ ka : Nat, a = ka := ⟨a.toNat, by have := hh.1; omega⟩
  subst hka
  have hlt : ka < y.cs.length := by have := hh.2; omega
  obtain ⟨gc, hA⟩ := h.o.block (by omega)
  obtain ⟨r, er, d0, d1, d2, z0, z1, z2, gl, gh, m1, m2, e2⟩ := h.o.at hA hlt
  rw [hA] at c0
  have cI := in_any (ka : Int) 0 ((y.cs.length : Int) - 1) w true (decide_eq_true ⟨by omega, by omega⟩)
  have i1 : (ka : Int) < (y.cs.length : Int) := by omega
  have HE := Lib.hid e2
  have HV := Lib.hid hv
  have i2 : (0 : Int) < (y.ws.length : Int) := by omega
  clear h hv er e2 m1 m2
  go_enter Try.func27, Try.ntmps27
  go_wp2_with (first | (go_at_call 39; (with_reducible refine cI.mono ?_); rintro e w1 ⟨rfl, rfl⟩))
  go_ret
  exact ⟨rfl, ⟨_, rfl, HH.out⟩, Below.refl _ _⟩
set_option maxHeartbeats 4000000 in
theorem rfault_kind (y : DV) (kind a fr bit bits : Int) (base g : Nat) (w : World) (h : RefD w base g y) (hv : Valid y.d) (hh : HasC y.d a) (hc : y.ws.length = 0) (k1 : kind ≠ 11) (k2 : kind ≠ 12) (k3 : kind ≠ 13) (k4 : kind ≠ 14) (k5 : kind ≠ 15) :
    Calls Try.prog 27 #[.pointer (some ⟨g, 0, none⟩), .int .i64 kind, .int .i64 a, .int .i64 fr, .int .i64 bit, .int .i64 bits] w fun e w' => e = .returned (.int .i64 1) ∧ (∃ z : DV, z.d = y.d ∧ RefD w' base g z) ∧ Below base w w' := by
  have hln : y.cs.length ≤ 300 := by have h1 := hv.1.1.2.1; rwa [show y.d.cells.length = y.cs.length from cds_length _] at h1
  have lo := h.lo
  obtain ⟨c0, c1, c2, c3, f0, f1, f2, f3⟩ := id h.r
  have HH := Lib.hid h
  have hcl : y.d.cells.length = y.cs.length := cds_length _
  obtain ⟨ka, hka⟩ : ∃ ka : Nat, a = ka := ⟨a.toNat, by have := hh.1; omega⟩
  subst hka
  have hlt : ka < y.cs.length := by have := hh.2; omega
  obtain ⟨gc, hA⟩ := h.o.block (by omega)
  obtain ⟨r, er, d0, d1, d2, z0, z1, z2, gl, gh, m1, m2, e2⟩ := h.o.at hA hlt
  rw [hA] at c0
  have cI := in_any (ka : Int) 0 ((y.cs.length : Int) - 1) w true (decide_eq_true ⟨by omega, by omega⟩)
  have i1 : (ka : Int) < (y.cs.length : Int) := by omega
  have HE := Lib.hid e2
  have HV := Lib.hid hv
  have n1 : (kind == 11) = false := beq_eq_false_iff_ne.2 k1
  have n2 : (kind == 12) = false := beq_eq_false_iff_ne.2 k2
  have n3 : (kind == 13) = false := beq_eq_false_iff_ne.2 k3
  have n4 : (kind == 14) = false := beq_eq_false_iff_ne.2 k4
  have n5 : (kind == 15) = false := beq_eq_false_iff_ne.2 k5
  rw [hc] at c1
  clear h hv er e2 m1 m2 k1 k2 k3 k4 k5
  go_enter Try.func27, Try.ntmps27
  go_wp2_with (first | (go_at_call 39; (with_reducible refine cI.mono ?_); rintro e w1 ⟨rfl, rfl⟩))
  go_ret
  exact ⟨rfl, ⟨_, rfl, HH.out⟩, Below.refl _ _⟩
set_option maxHeartbeats 4000000 in
theorem rfault_latent (y : DV) (kind a fr bit bits : Int) (base g : Nat) (w : World) (h : RefD w base g y) (hv : Valid y.d) (hh : HasC y.d a) (hc : y.ws.length = 0) (hk : kind = 11) :
    Calls Try.prog 27 #[.pointer (some ⟨g, 0, none⟩), .int .i64 kind, .int .i64 a, .int .i64 fr, .int .i64 bit, .int .i64 bits] w fun e w' => e = .returned (.int .i64 0) ∧ (∃ z : DV, z.d = turnC y.d a (fun c => if c.st = 0 then ⟨1, c.bs, c.old⟩ else c) ∧ RefD w' base g z) ∧ Below base w w' := by
  have hln : y.cs.length ≤ 300 := by have h1 := hv.1.1.2.1; rwa [show y.d.cells.length = y.cs.length from cds_length _] at h1
  have lo := h.lo
  obtain ⟨c0, c1, c2, c3, f0, f1, f2, f3⟩ := id h.r
  have HH := Lib.hid h
  have hcl : y.d.cells.length = y.cs.length := cds_length _
  obtain ⟨ka, hka⟩ : ∃ ka : Nat, a = ka := ⟨a.toNat, by have := hh.1; omega⟩
  subst hka
  have hlt : ka < y.cs.length := by have := hh.2; omega
  obtain ⟨gc, hA⟩ := h.o.block (by omega)
  obtain ⟨r, er, d0, d1, d2, z0, z1, z2, gl, gh, m1, m2, e2⟩ := h.o.at hA hlt
  rw [hA] at c0
  have cI := in_any (ka : Int) 0 ((y.cs.length : Int) - 1) w true (decide_eq_true ⟨by omega, by omega⟩)
  have i1 : (ka : Int) < (y.cs.length : Int) := by omega
  have HE := Lib.hid e2
  have HV := Lib.hid hv
  subst hk
  rw [hc] at c1
  by_cases hs : r.st = 0
  · have n1 : (r.st == 0) = true := by rw [hs]; rfl
    have o1 := h.o.st hA hlt 1
    have RF := Lib.hid (h.own hA (by simp) o1)
    have ES := Lib.hid hs
    rw [hs] at d0
    clear h hv er e2 m1 m2 o1 hs
    go_enter Try.func27, Try.ntmps27
    go_wp2_with (first | (go_at_call 39; (with_reducible refine cI.mono ?_); rintro e w1 ⟨rfl, rfl⟩))
    go_ret
    refine ⟨rfl, ⟨_, ?_, RF.out⟩, (Below.refl base _).setCell (p := ⟨gc, ka * 3, none⟩) gl _⟩
    show (⟨cds (y.cs.modify ka _), wds y.ws, y.reqs, y.left⟩ : Dsk) = ⟨(cds y.cs).modify ka _, wds y.ws, y.reqs, y.left⟩
    rw [cds_modify (f' := fun c => ⟨1, c.bs, c.old⟩) (fun _ => rfl), modify_at (fun c => (⟨1, c.bs, c.old⟩ : Cel)) (fun c => if c.st = 0 then ⟨1, c.bs, c.old⟩ else c) (cds y.cs) ka r.d HE.out (by rw [if_pos (show r.d.st = 0 from ES.out)])]
  · have n1 : (r.st == 0) = false := beq_eq_false_iff_ne.2 hs
    have ES := Lib.hid hs
    clear h hv er e2 m1 m2 hs
    go_enter Try.func27, Try.ntmps27
    go_wp2_with (first | (go_at_call 39; (with_reducible refine cI.mono ?_); rintro e w1 ⟨rfl, rfl⟩))
    go_ret
    refine ⟨rfl, ⟨_, ?_, HH.out⟩, Below.refl _ _⟩
    show (⟨cds y.cs, wds y.ws, y.reqs, y.left⟩ : Dsk) = ⟨(cds y.cs).modify ka _, wds y.ws, y.reqs, y.left⟩
    rw [modify_same _ (cds y.cs) ka r.d HE.out (by rw [if_neg (show ¬ r.d.st = 0 from ES.out)])]
set_option maxHeartbeats 4000000 in
theorem rfault_sticky (y : DV) (kind a fr bit bits : Int) (base g : Nat) (w : World) (h : RefD w base g y) (hv : Valid y.d) (hh : HasC y.d a) (hc : y.ws.length = 0) (hk : kind = 12) :
    Calls Try.prog 27 #[.pointer (some ⟨g, 0, none⟩), .int .i64 kind, .int .i64 a, .int .i64 fr, .int .i64 bit, .int .i64 bits] w fun e w' => e = .returned (.int .i64 0) ∧ (∃ z : DV, z.d = turnC y.d a (fun c => ⟨2, c.bs, c.old⟩) ∧ RefD w' base g z) ∧ Below base w w' := by
  have hln : y.cs.length ≤ 300 := by have h1 := hv.1.1.2.1; rwa [show y.d.cells.length = y.cs.length from cds_length _] at h1
  have lo := h.lo
  obtain ⟨c0, c1, c2, c3, f0, f1, f2, f3⟩ := id h.r
  have HH := Lib.hid h
  have hcl : y.d.cells.length = y.cs.length := cds_length _
  obtain ⟨ka, hka⟩ : ∃ ka : Nat, a = ka := ⟨a.toNat, by have := hh.1; omega⟩
  subst hka
  have hlt : ka < y.cs.length := by have := hh.2; omega
  obtain ⟨gc, hA⟩ := h.o.block (by omega)
  obtain ⟨r, er, d0, d1, d2, z0, z1, z2, gl, gh, m1, m2, e2⟩ := h.o.at hA hlt
  rw [hA] at c0
  have cI := in_any (ka : Int) 0 ((y.cs.length : Int) - 1) w true (decide_eq_true ⟨by omega, by omega⟩)
  have i1 : (ka : Int) < (y.cs.length : Int) := by omega
  have HE := Lib.hid e2
  have HV := Lib.hid hv
  subst hk
  rw [hc] at c1
  have o1 := h.o.st hA hlt 2
  have RF := Lib.hid (h.own hA (by simp) o1)
  clear h hv er e2 m1 m2 o1
  go_enter Try.func27, Try.ntmps27
  go_wp2_with (first | (go_at_call 39; (with_reducible refine cI.mono ?_); rintro e w1 ⟨rfl, rfl⟩))
  go_ret
  refine ⟨rfl, ⟨_, ?_, RF.out⟩, (Below.refl base _).setCell (p := ⟨gc, ka * 3, none⟩) gl _⟩
  show (⟨cds (y.cs.modify ka _), wds y.ws, y.reqs, y.left⟩ : Dsk) = ⟨(cds y.cs).modify ka _, wds y.ws, y.reqs, y.left⟩
  rw [cds_modify (f' := fun c => ⟨2, c.bs, c.old⟩) (fun _ => rfl)]
set_option maxHeartbeats 4000000 in
theorem rfault_bits (y : DV) (kind a fr bit bits : Int) (base g : Nat) (w : World) (h : RefD w base g y) (hv : Valid y.d) (hh : HasC y.d a) (hc : y.ws.length = 0) (hk : kind = 13) (hb : bit < 0 ∨ bits < 0) :
    Calls Try.prog 27 #[.pointer (some ⟨g, 0, none⟩), .int .i64 kind, .int .i64 a, .int .i64 fr, .int .i64 bit, .int .i64 bits] w fun e w' => e = .returned (.int .i64 1) ∧ (∃ z : DV, z.d = y.d ∧ RefD w' base g z) ∧ Below base w w' := by
  have hln : y.cs.length ≤ 300 := by have h1 := hv.1.1.2.1; rwa [show y.d.cells.length = y.cs.length from cds_length _] at h1
  have lo := h.lo
  obtain ⟨c0, c1, c2, c3, f0, f1, f2, f3⟩ := id h.r
  have HH := Lib.hid h
  have hcl : y.d.cells.length = y.cs.length := cds_length _
  obtain ⟨ka, hka⟩ : ∃ ka : Nat, a = ka := ⟨a.toNat, by have := hh.1; omega⟩
  subst hka
  have hlt : ka < y.cs.length := by have := hh.2; omega
  obtain ⟨gc, hA⟩ := h.o.block (by omega)
  obtain ⟨r, er, d0, d1, d2, z0, z1, z2, gl, gh, m1, m2, e2⟩ := h.o.at hA hlt
  rw [hA] at c0
  have cI := in_any (ka : Int) 0 ((y.cs.length : Int) - 1) w true (decide_eq_true ⟨by omega, by omega⟩)
  have i1 : (ka : Int) < (y.cs.length : Int) := by omega
  have HE := Lib.hid e2
  have HV := Lib.hid hv
  subst hk
  rw [hc] at c1
  clear h hv er e2 m1 m2
  by_cases b0 : bit < 0
  · go_enter Try.func27, Try.ntmps27
    go_wp2_with (first | (go_at_call 39; (with_reducible refine cI.mono ?_); rintro e w1 ⟨rfl, rfl⟩))
    go_ret
    exact ⟨rfl, ⟨_, rfl, HH.out⟩, Below.refl _ _⟩
  · have b1 : bits < 0 := hb.resolve_left b0
    clear hb
    go_enter Try.func27, Try.ntmps27
    go_wp2_with (first | (go_at_call 39; (with_reducible refine cI.mono ?_); rintro e w1 ⟨rfl, rfl⟩))
    go_ret
    exact ⟨rfl, ⟨_, rfl, HH.out⟩, Below.refl _ _⟩
set_option maxHeartbeats 4000000 in
theorem rfault_flip (y : DV) (kind a fr bit bits : Int) (base g : Nat) (w : World) (h : RefD w base g y) (hv : Valid y.d) (hh : HasC y.d a) (hc : y.ws.length = 0) (hk : kind = 13) (b0 : 0 ≤ bit) (b1 : 0 ≤ bits) :
    Calls Try.prog 27 #[.pointer (some ⟨g, 0, none⟩), .int .i64 kind, .int .i64 a, .int .i64 fr, .int .i64 bit, .int .i64 bits] w fun e w' => e = .returned (.int .i64 0) ∧ (∃ z : DV, z.d = turnC y.d a (fun c => ⟨c.st, flipd c.bs bit bits, c.old⟩) ∧ RefD w' base g z) ∧ Below base w w' := by
  have hln : y.cs.length ≤ 300 := by have h1 := hv.1.1.2.1; rwa [show y.d.cells.length = y.cs.length from cds_length _] at h1
  have lo := h.lo
  obtain ⟨c0, c1, c2, c3, f0, f1, f2, f3⟩ := id h.r
  have HH := Lib.hid h
  have hcl : y.d.cells.length = y.cs.length := cds_length _
  obtain ⟨ka, hka⟩ : ∃ ka : Nat, a = ka := ⟨a.toNat, by have := hh.1; omega⟩
  subst hka
  have hlt : ka < y.cs.length := by have := hh.2; omega
  obtain ⟨gc, hA⟩ := h.o.block (by omega)
  obtain ⟨r, er, d0, d1, d2, z0, z1, z2, gl, gh, m1, m2, e2⟩ := h.o.at hA hlt
  rw [hA] at c0
  have cI := in_any (ka : Int) 0 ((y.cs.length : Int) - 1) w true (decide_eq_true ⟨by omega, by omega⟩)
  have i1 : (ka : Int) < (y.cs.length : Int) := by omega
  have HE := Lib.hid e2
  have HV := Lib.hid hv
  have hbase : base ≤ w.heap.size := Nat.le_of_lt (Nat.lt_of_le_of_lt h.lo h.hi)
  subst hk
  rw [hc] at c1
  have n1 : ¬ bit < 0 := by omega
  have n2 : ¬ bits < 0 := by omega
  have hrl := (hv.2.1 r.d (List.mem_of_getElem? e2)).2.2.1
  have cF := rflip_c r.b bit bits w m1 (Nat.le_trans hrl (by decide))
  clear h hv er e2 m1 m2 hrl
  go_enter Try.func27, Try.ntmps27
  go_wp2_with (first | (go_at_call 39; (with_reducible refine cI.mono ?_); rintro e w1 ⟨rfl, rfl⟩) | (go_at_call 44; (with_reducible refine cF.mono ?_); rintro e wT ⟨⟨⟨XT, xT, sT⟩, rfl, lT, lq, IT, -⟩, hbT⟩; unfold Row.v; dsimp only at lT ⊢; have lH := Lib.hid lT; clear lT lq; have HT := HH.out.below hbT; obtain ⟨r2, er2, q0, q1, q2, p0, p1, p2, -, -, -, -, -⟩ := HT.o.at hA hlt))
  have o1 := HT.o.b hA hlt (b := (⟨XT, xT, sT⟩ : Row)) IT
  have RF := HT.own hA (by simp) o1
  go_ret
  refine ⟨rfl, ⟨_, ?_, RF⟩, (hbT.mono hbase).setCell (p := ⟨gc, ka * 3 + 1, none⟩) gl _⟩
  show (⟨cds (y.cs.modify ka _), wds y.ws, y.reqs, y.left⟩ : Dsk) = ⟨(cds y.cs).modify ka _, wds y.ws, y.reqs, y.left⟩
  rw [cds_modify (f' := fun c => ⟨c.st, (⟨XT, xT, sT⟩ : Row).l, c.old⟩) (fun _ => rfl), modify_at (fun c => (⟨c.st, (⟨XT, xT, sT⟩ : Row).l, c.old⟩ : Cel)) (fun c => ⟨c.st, flipd c.bs bit bits, c.old⟩) (cds y.cs) ka r.d HE.out (by rw [lH.out]; rfl)]
set_option maxHeartbeats 4000000 in
theorem rfault_stale (y : DV) (kind a fr bit bits : Int) (base g : Nat) (w : World) (h : RefD w base g y) (hv : Valid y.d) (hh : HasC y.d a) (hc : y.ws.length = 0) (hk : kind = 14) :
    Calls Try.prog 27 #[.pointer (some ⟨g, 0, none⟩), .int .i64 kind, .int .i64 a, .int .i64 fr, .int .i64 bit, .int .i64 bits] w fun e w' => e = .returned (.int .i64 0) ∧ (∃ z : DV, z.d = turnC y.d a (fun c => ⟨c.st, c.old, c.old⟩) ∧ RefD w' base g z) ∧ Below base w w' := by
  have hln : y.cs.length ≤ 300 := by have h1 := hv.1.1.2.1; rwa [show y.d.cells.length = y.cs.length from cds_length _] at h1
  have lo := h.lo
  obtain ⟨c0, c1, c2, c3, f0, f1, f2, f3⟩ := id h.r
  have HH := Lib.hid h
  have hcl : y.d.cells.length = y.cs.length := cds_length _
  obtain ⟨ka, hka⟩ : ∃ ka : Nat, a = ka := ⟨a.toNat, by have := hh.1; omega⟩
  subst hka
  have hlt : ka < y.cs.length := by have := hh.2; omega
  obtain ⟨gc, hA⟩ := h.o.block (by omega)
  obtain ⟨r, er, d0, d1, d2, z0, z1, z2, gl, gh, m1, m2, e2⟩ := h.o.at hA hlt
  rw [hA] at c0
  have cI := in_any (ka : Int) 0 ((y.cs.length : Int) - 1) w true (decide_eq_true ⟨by omega, by omega⟩)
  have i1 : (ka : Int) < (y.cs.length : Int) := by omega
  have HE := Lib.hid e2
  have HV := Lib.hid hv
  have hbase : base ≤ w.heap.size := Nat.le_of_lt (Nat.lt_of_le_of_lt h.lo h.hi)
  subst hk
  rw [hc] at c1
  have hrl := (hv.2.1 r.d (List.mem_of_getElem? e2)).2.2.2
  have cF := twin_q m2 (Nat.le_trans hrl (by decide))
  clear h hv er e2 m1 m2 hrl
  go_enter Try.func27, Try.ntmps27
  go_wp2_with (first | (go_at_call 39; (with_reducible refine cI.mono ?_); rintro e w1 ⟨rfl, rfl⟩) | (go_at_call 29; (with_reducible refine cF.mono ?_); rintro e wT ⟨⟨rT, rfl, lT, IT⟩, hbT⟩; have lH := Lib.hid lT; clear lT; have HT := HH.out.below hbT; obtain ⟨r2, er2, q0, q1, q2, p0, p1, p2, -, -, -, -, -⟩ := HT.o.at hA hlt))
  have o1 := HT.o.b hA hlt (b := rT) IT
  have RF := HT.own hA (by simp) o1
  go_ret
  refine ⟨rfl, ⟨_, ?_, RF⟩, (hbT.mono hbase).setCell (p := ⟨gc, ka * 3 + 1, none⟩) gl _⟩
  show (⟨cds (y.cs.modify ka _), wds y.ws, y.reqs, y.left⟩ : Dsk) = ⟨(cds y.cs).modify ka _, wds y.ws, y.reqs, y.left⟩
  rw [cds_modify (f' := fun c => ⟨c.st, rT.l, c.old⟩) (fun _ => rfl), modify_at (fun c => (⟨c.st, rT.l, c.old⟩ : Cel)) (fun c => ⟨c.st, c.old, c.old⟩) (cds y.cs) ka r.d HE.out (by rw [lH.out]; rfl)]
set_option maxHeartbeats 4000000 in
theorem rfault_from (y : DV) (kind a fr bit bits : Int) (base g : Nat) (w : World) (h : RefD w base g y) (hv : Valid y.d) (hh : HasC y.d a) (hc : y.ws.length = 0) (hk : kind = 15) (hb : ¬ HasC y.d fr) :
    Calls Try.prog 27 #[.pointer (some ⟨g, 0, none⟩), .int .i64 kind, .int .i64 a, .int .i64 fr, .int .i64 bit, .int .i64 bits] w fun e w' => e = .returned (.int .i64 1) ∧ (∃ z : DV, z.d = y.d ∧ RefD w' base g z) ∧ Below base w w' := by
  have hln : y.cs.length ≤ 300 := by have h1 := hv.1.1.2.1; rwa [show y.d.cells.length = y.cs.length from cds_length _] at h1
  have lo := h.lo
  obtain ⟨c0, c1, c2, c3, f0, f1, f2, f3⟩ := id h.r
  have HH := Lib.hid h
  have hcl : y.d.cells.length = y.cs.length := cds_length _
  obtain ⟨ka, hka⟩ : ∃ ka : Nat, a = ka := ⟨a.toNat, by have := hh.1; omega⟩
  subst hka
  have hlt : ka < y.cs.length := by have := hh.2; omega
  obtain ⟨gc, hA⟩ := h.o.block (by omega)
  obtain ⟨r, er, d0, d1, d2, z0, z1, z2, gl, gh, m1, m2, e2⟩ := h.o.at hA hlt
  rw [hA] at c0
  have cI := in_any (ka : Int) 0 ((y.cs.length : Int) - 1) w true (decide_eq_true ⟨by omega, by omega⟩)
  have i1 : (ka : Int) < (y.cs.length : Int) := by omega
  have HE := Lib.hid e2
  have HV := Lib.hid hv
  subst hk
  rw [hc] at c1
  have cJ := in_any fr 0 ((y.cs.length : Int) - 1) w false (decide_eq_false fun k => hb ⟨k.1, by rw [hcl]; omega⟩)
  clear h hv er e2 m1 m2
  go_enter Try.func27, Try.ntmps27
  go_wp2_with (first | (go_at_call 39; (with_reducible refine cI.mono ?_); rintro e w1 ⟨rfl, rfl⟩) | (go_at_call 39; (with_reducible refine cJ.mono ?_); rintro e w1 ⟨rfl, rfl⟩))
  go_ret
  exact ⟨rfl, ⟨_, rfl, HH.out⟩, Below.refl _ _⟩
set_option maxHeartbeats 4000000 in
theorem rfault_move (y : DV) (kind a fr bit bits : Int) (base g : Nat) (w : World) (h : RefD w base g y) (hv : Valid y.d) (hh : HasC y.d a) (hc : y.ws.length = 0) (hk : kind = 15) (hb : HasC y.d fr) :
    Calls Try.prog 27 #[.pointer (some ⟨g, 0, none⟩), .int .i64 kind, .int .i64 a, .int .i64 fr, .int .i64 bit, .int .i64 bits] w fun e w' => e = .returned (.int .i64 0) ∧ (∃ z : DV, z.d = turnC y.d a (fun c => ⟨c.st, (y.d.cells[fr.toNat]?.map Cel.bs).getD [], c.old⟩) ∧ RefD w' base g z) ∧ Below base w w' := by
  have hln : y.cs.length ≤ 300 := by have h1 := hv.1.1.2.1; rwa [show y.d.cells.length = y.cs.length from cds_length _] at h1
  have lo := h.lo
  obtain ⟨c0, c1, c2, c3, f0, f1, f2, f3⟩ := id h.r
  have HH := Lib.hid h
  have hcl : y.d.cells.length = y.cs.length := cds_length _
  obtain ⟨ka, hka⟩ : ∃ ka : Nat, a = ka := ⟨a.toNat, by have := hh.1; omega⟩
  subst hka
  have hlt : ka < y.cs.length := by have := hh.2; omega
  obtain ⟨gc, hA⟩ := h.o.block (by omega)
  obtain ⟨r, er, d0, d1, d2, z0, z1, z2, gl, gh, m1, m2, e2⟩ := h.o.at hA hlt
  rw [hA] at c0
  have cI := in_any (ka : Int) 0 ((y.cs.length : Int) - 1) w true (decide_eq_true ⟨by omega, by omega⟩)
  have i1 : (ka : Int) < (y.cs.length : Int) := by omega
  have HE := Lib.hid e2
  have HV := Lib.hid hv
  have hbase : base ≤ w.heap.size := Nat.le_of_lt (Nat.lt_of_le_of_lt h.lo h.hi)
  subst hk
  rw [hc] at c1
  obtain ⟨kf, hkf⟩ : ∃ kf : Nat, fr = kf := ⟨fr.toNat, by have := hb.1; omega⟩
  subst hkf
  have hlf : kf < y.cs.length := by have := hb.2; omega
  have i3 : (kf : Int) < (y.cs.length : Int) := by omega
  have cJ := in_any (kf : Int) 0 ((y.cs.length : Int) - 1) w true (decide_eq_true ⟨by omega, by omega⟩)
  obtain ⟨u, eu, -, v1, -, -, -, -, -, -, mu, -, eud⟩ := h.o.at hA hlf
  have hrl := (hv.2.1 u.d (List.mem_of_getElem? eud)).2.2.1
  have cF := twin_q mu (Nat.le_trans hrl (by decide))
  have hbs : (y.d.cells[(kf : Int).toNat]?.map Cel.bs).getD [] = u.b.l := by rw [show y.d.cells[(kf : Int).toNat]? = some u.d from eud]; rfl
  have HS := Lib.hid hbs
  clear h hv er e2 m1 m2 hrl eu eud mu hbs
  go_enter Try.func27, Try.ntmps27
  go_wp2_with (first | (go_at_call 39; (with_reducible refine cI.mono ?_); rintro e w1 ⟨rfl, rfl⟩) | (go_at_call 39; (with_reducible refine cJ.mono ?_); rintro e w1 ⟨rfl, rfl⟩) | (go_at_call 29; (with_reducible refine cF.mono ?_); rintro e wT ⟨⟨rT, rfl, lT, IT⟩, hbT⟩; have lH := Lib.hid lT; clear lT; have HT := HH.out.below hbT; obtain ⟨r2, er2, q0, q1, q2, p0, p1, p2, -, -, -, -, -⟩ := HT.o.at hA hlt))
  have o1 := HT.o.b hA hlt (b := rT) IT
  have RF := HT.own hA (by simp) o1
  go_ret
  refine ⟨rfl, ⟨_, ?_, RF⟩, (hbT.mono hbase).setCell (p := ⟨gc, ka * 3 + 1, none⟩) gl _⟩
  show (⟨cds (y.cs.modify ka _), wds y.ws, y.reqs, y.left⟩ : Dsk) = ⟨(cds y.cs).modify ka _, wds y.ws, y.reqs, y.left⟩
  rw [cds_modify (f' := fun c => ⟨c.st, rT.l, c.old⟩) (fun _ => rfl), modify_at (fun c => (⟨c.st, rT.l, c.old⟩ : Cel)) (fun c => ⟨c.st, (y.d.cells[(kf : Int).toNat]?.map Cel.bs).getD [], c.old⟩) (cds y.cs) ka r.d HE.out (by rw [HS.out, lH.out])]
/-- Fault, at once. -/
theorem rfault_at (y : DV) (kind a fr bit bits : Int) (base g : Nat) (w : World) (h : RefD w base g y) (hv : Valid y.d) :
    Calls Try.prog 27 #[.pointer (some ⟨g, 0, none⟩), .int .i64 kind, .int .i64 a, .int .i64 fr, .int .i64 bit, .int .i64 bits] w fun e w' => e = .returned (.int .i64 (faultA y.d kind a fr bit bits).2) ∧ (∃ z : DV, ((faultA y.d kind a fr bit bits).2 = 0 → z.d = (faultA y.d kind a fr bit bits).1) ∧ RefD w' base g z) ∧ Below base w w' := by
  have no : ∀ {er : Int} {D : Dsk} {e : Ending} {w' : World}, er ≠ 0 → (e = .returned (.int .i64 er) ∧ (∃ z : DV, z.d = y.d ∧ RefD w' base g z) ∧ Below base w w') → e = .returned (.int .i64 (D, er).2) ∧ (∃ z : DV, ((D, er).2 = 0 → z.d = (D, er).1) ∧ RefD w' base g z) ∧ Below base w w' :=
    fun ne ⟨h1, ⟨z, _, h3⟩, h4⟩ => ⟨h1, ⟨z, fun k => absurd k ne, h3⟩, h4⟩
  have yes : ∀ {D : Dsk} {e : Ending} {w' : World}, (e = .returned (.int .i64 0) ∧ (∃ z : DV, z.d = D ∧ RefD w' base g z) ∧ Below base w w') → e = .returned (.int .i64 (D, (0 : Int)).2) ∧ (∃ z : DV, ((D, (0 : Int)).2 = 0 → z.d = (D, (0 : Int)).1) ∧ RefD w' base g z) ∧ Below base w w' :=
    fun ⟨h1, ⟨z, h2, h3⟩, h4⟩ => ⟨h1, ⟨z, fun _ => h2, h3⟩, h4⟩
  unfold faultA
  by_cases hh : HasC y.d a
  · rw [if_neg (not_not_intro ⟨hv, hh⟩)]
    by_cases hc : y.ws.length = 0
    · have hc2 : y.d.cache = [] := by
        have : y.ws = [] := List.eq_nil_of_length_eq_zero hc
        show wds y.ws = []
        rw [this]; rfl
      rw [if_neg (not_not_intro hc2)]
      unfold faultF
      by_cases k1 : kind = 11
      · rw [if_pos k1]
        exact (rfault_latent y kind a fr bit bits base g w h hv hh hc k1).mono fun _ _ => yes
      rw [if_neg k1]
      by_cases k2 : kind = 12
      · rw [if_pos k2]
        exact (rfault_sticky y kind a fr bit bits base g w h hv hh hc k2).mono fun _ _ => yes
      rw [if_neg k2]
      by_cases k3 : kind = 13
      · by_cases hb : 0 ≤ bit ∧ 0 ≤ bits
        · rw [if_pos ⟨k3, hb⟩]
          exact (rfault_flip y kind a fr bit bits base g w h hv hh hc k3 hb.1 hb.2).mono fun _ _ => yes
        · rw [if_neg (fun k => hb k.2), if_neg (by omega), if_neg (fun k => absurd k.1 (by omega))]
          exact (rfault_bits y kind a fr bit bits base g w h hv hh hc k3 (by omega)).mono fun _ _ => no (by decide)
      rw [if_neg (fun k => k3 k.1)]
      by_cases k4 : kind = 14
      · rw [if_pos k4]
        exact (rfault_stale y kind a fr bit bits base g w h hv hh hc k4).mono fun _ _ => yes
      rw [if_neg k4]
      by_cases k5 : kind = 15
      · by_cases hb : HasC y.d fr
        · rw [if_pos ⟨k5, hb⟩]
          exact (rfault_move y kind a fr bit bits base g w h hv hh hc k5 hb).mono fun _ _ => yes
        · rw [if_neg (fun k => hb k.2)]
          exact (rfault_from y kind a fr bit bits base g w h hv hh hc k5 hb).mono fun _ _ => no (by decide)
      rw [if_neg (fun k => k5 k.1)]
      exact (rfault_kind y kind a fr bit bits base g w h hv hh hc k1 k2 k3 k4 k5).mono fun _ _ => no (by decide)
    · have hc2 : y.d.cache ≠ [] := by
        intro e
        apply hc
        have := congrArg List.length e
        rwa [show y.d.cache.length = y.ws.length from wds_length _] at this
      rw [if_pos hc2]
      exact (rfault_place y kind a fr bit bits base g w h hv hh (by omega)).mono fun _ _ => no (by decide)
  · rw [if_pos (fun k => hh k.2)]
    exact (rfault_none y kind a fr bit bits base g w h hv hh).mono fun _ _ => no (by decide)
end Go.Proofs.Ytegcbmimndmfkaa.dsk
