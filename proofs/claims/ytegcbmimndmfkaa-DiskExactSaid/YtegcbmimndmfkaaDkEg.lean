/-
  What the law DiskExact needs: the program's and the document's calls at plain disks, in one form. Conditions: as each says.
-/
import Derived.Test.YtegcbmimndmfkaaDkEc
import Derived.Test.YtegcbmimndmfkaaDkEd
import Derived.Test.YtegcbmimndmfkaaDkEe
import Derived.Test.YtegcbmimndmfkaaDkRi
import Derived.Test.YtegcbmimndmfkaaDkRp
namespace Go.Proofs.Ytegcbmimndmfkaa.dsk
open Go.RowKit Go.Lib
open Go.Proofs.Ytegcbmimndmfkaa.crc (TurnedAll)

/-- Small enough to be compared. -/
structure Small (D : Dsk) : Prop where
  n : D.cells.length ≤ 1048576
  m : D.cache.length ≤ 1048576
  c : ∀ c ∈ D.cells, c.bs.length ≤ 60000 ∧ c.old.length ≤ 60000
  w : ∀ x ∈ D.cache, x.bs.length ≤ 60000
theorem small_valid {D : Dsk} (h : Valid D) : Small D := by
  obtain ⟨⟨⟨-, h2, h3⟩, -⟩, hc, hw⟩ := h
  exact ⟨by omega, by omega, fun c k => ⟨by have := (hc c k).2.2.1; omega, by have := (hc c k).2.2.2; omega⟩, fun x k => by have := (hw x k).2.2; omega⟩
theorem small_no : Small noDsk := ⟨Nat.zero_le _, Nat.zero_le _, fun c k => (by cases k), fun x k => (by cases k)⟩
theorem small_light {d : DV} (h : Light d) : Small d.d := by
  obtain ⟨h1, h2, h3, h4⟩ := h
  refine ⟨by show (cds d.cs).length ≤ _; rw [cds_length]; omega, by show (wds d.ws).length ≤ _; rw [wds_length]; omega, fun c k => ?_, fun x k => ?_⟩
  · obtain ⟨r, hr, rfl⟩ := List.mem_map.1 (show c ∈ List.map CellR.d d.cs from k)
    exact h3 r hr
  · obtain ⟨r, hr, rfl⟩ := List.mem_map.1 (show x ∈ List.map WriR.d d.ws from k)
    exact h4 r hr
theorem Small.fit {d : DV} (h : Small d.d) : (d.cs.length ≤ 1048576 ∧ d.ws.length ≤ 1048576) ∧ CShort 1048576 d.cs ∧ WShort 1048576 d.ws := by
  have h1 := h.n
  have h2 := h.m
  rw [show d.d.cells.length = d.cs.length from cds_length _] at h1
  rw [show d.d.cache.length = d.ws.length from wds_length _] at h2
  exact ⟨⟨h1, h2⟩, fun r hr => ⟨Nat.le_trans (h.c r.d (List.mem_map_of_mem hr)).1 (by decide), Nat.le_trans (h.c r.d (List.mem_map_of_mem hr)).2 (by decide)⟩, fun r hr => Nat.le_trans (h.w r.d (List.mem_map_of_mem hr)) (by decide)⟩
theorem small_req {D : Dsk} (h : Small D) : Small (req D) := ⟨h.n, h.m, h.c, h.w⟩
theorem small_play {D : Dsk} (h : Small D) (f : Nat → Bool) (q l : Int) : Small ⟨play f 0 D.cells D.cache, [], q, l⟩ := by
  refine ⟨by show (play f 0 D.cells D.cache).length ≤ _; rw [play_length]; exact h.n, Nat.zero_le _, play_all (fun c => c.bs.length ≤ 60000 ∧ c.old.length ≤ 60000) _ _ _ _ h.c fun x hx c k => ?_, fun x k => by cases k⟩
  unfold onto
  split
  · exact k
  · exact ⟨h.w x hx, k.1⟩
theorem small_readA {D : Dsk} (h : Small D) (a : Int) : Small (readA D a).1 := by
  unfold readA
  split
  · exact small_no
  · split
    · exact h
    · exact small_req h
theorem small_writeA {D : Dsk} (h : Small D) (a : Int) (b : List UInt8) : Small (writeA D a b).1 := by
  unfold writeA
  split
  · exact small_no
  · rename_i hv
    have hv := Decidable.not_not.1 hv
    split
    · exact h
    · split
      · exact small_req h
      · have hm := hv.1.1.1.2.2
        refine ⟨h.n, by show (D.cache ++ [_]).length ≤ _; rw [List.length_append]; simp; omega, h.c, fun x k => ?_⟩
        rcases List.mem_append.1 k with k | k
        · exact h.w x k
        · obtain rfl := List.mem_singleton.1 k
          have := hv.2.2
          show b.length ≤ 60000
          omega
theorem small_flushA {D : Dsk} (h : Small D) : Small (flushA D).1 := by
  unfold flushA
  split
  · exact small_no
  · split
    · exact h
    · exact small_play h _ _ _
theorem small_crashA {D : Dsk} (h : Small D) (keep : Int) : Small (crashA D keep).1 := by
  unfold crashA
  split
  · exact small_no
  · exact small_play h _ _ _
theorem flipd_length (l : List UInt8) (bit bits : Int) : (flipd l bit bits).length = l.length := by
  unfold flipd
  split
  · rename_i h
    exact h.choose_spec.1
  · rfl
theorem small_faultA {D : Dsk} (h : Small D) (kind a fr bit bits : Int) : Small (faultA D kind a fr bit bits).1 := by
  have turn : ∀ f : Cel → Cel, (∀ c ∈ D.cells, (f c).bs.length ≤ 60000 ∧ (f c).old.length ≤ 60000) → Small (turnC D a f) := fun f hf => by
    refine ⟨by show (D.cells.modify _ _).length ≤ _; rw [List.length_modify]; exact h.n, h.m, fun c k => ?_, h.w⟩
    rcases mem_modify k with k | ⟨c', hc', rfl⟩
    · exact h.c c k
    · exact hf c' hc'
  unfold faultA
  split
  · exact small_no
  · split
    · exact small_no
    · unfold faultF
      by_cases k1 : kind = 11
      · rw [if_pos k1]
        refine turn _ fun c k => ?_
        split
        · exact h.c c k
        · exact h.c c k
      rw [if_neg k1]
      by_cases k2 : kind = 12
      · rw [if_pos k2]
        exact turn _ fun c k => h.c c k
      rw [if_neg k2]
      by_cases k3 : kind = 13 ∧ 0 ≤ bit ∧ 0 ≤ bits
      · rw [if_pos k3]
        exact turn _ fun c k => ⟨by show (flipd _ _ _).length ≤ _; rw [flipd_length]; exact (h.c c k).1, (h.c c k).2⟩
      rw [if_neg k3]
      by_cases k4 : kind = 14
      · rw [if_pos k4]
        exact turn _ fun c k => ⟨(h.c c k).2, (h.c c k).2⟩
      rw [if_neg k4]
      by_cases k5 : kind = 15 ∧ HasC D fr
      · rw [if_pos k5]
        refine turn _ fun c k => ⟨?_, (h.c c k).2⟩
        cases e : D.cells[fr.toNat]? with
        | none => exact Nat.zero_le _
        | some u => exact (h.c u (List.mem_of_getElem? e)).1
      rw [if_neg k5]
      exact small_no
theorem disk_f (x y : DV) (w : World) (hx : x.In w w.heap.size) (hy : y.In w w.heap.size) (hs : Small x.d) (b : Bool) (hb : decide (x.d = y.d) = b) :
    Calls Try.prog 17 #[.agg #[.slice x.CA x.cs.length x.cc, .slice x.WA x.ws.length x.wc, .int .i64 x.reqs, .int .i64 x.left], .agg #[.slice y.CA y.cs.length y.cc, .slice y.WA y.ws.length y.wc, .int .i64 y.reqs, .int .i64 y.left]] w fun e w' => e = .returned (.bool b) ∧ Below w.heap.size w w' := by
  have hf := hs.fit
  subst hb
  exact disk_any x y w hx hy hf.1 hf.2.1 hf.2.2
theorem twin_f (x : DV) (w : World) (hx : x.In w w.heap.size) (hs : Small x.d) :
    Calls Try.prog 11 #[.agg #[.slice x.CA x.cs.length x.cc, .slice x.WA x.ws.length x.wc, .int .i64 x.reqs, .int .i64 x.left]] w fun e w' => (∃ y : DV, e = .returned (.agg #[.slice y.CA y.cs.length y.cc, .slice y.WA y.ws.length y.wc, .int .i64 y.reqs, .int .i64 y.left]) ∧ y.d = x.d ∧ y.Own w' w.heap.size) ∧ Below w.heap.size w w' := by
  have hf := hs.fit
  refine (twin_disk x w hx hf.1 hf.2.1 hf.2.2).mono ?_
  rintro e w' ⟨⟨y, h1, h2, h3, -⟩, hb⟩
  exact ⟨⟨y, h1, h2, h3⟩, hb⟩
theorem check_p (x : DV) (w : World) (hx : x.In w w.heap.size) (er : Int) (he : errV x.d = er) :
    Calls Try.prog 19 #[.agg #[.slice x.CA x.cs.length x.cc, .slice x.WA x.ws.length x.wc, .int .i64 x.reqs, .int .i64 x.left]] w fun e w' => e = .returned (.int .i64 er) ∧ Below w.heap.size w w' := by
  subst he
  exact check_at x w hx
theorem own_p (x : DV) (w : World) (hx : x.In w w.heap.size) (hv : Valid x.d) :
    Calls Try.prog 21 #[.agg #[.slice x.CA x.cs.length x.cc, .slice x.WA x.ws.length x.wc, .int .i64 x.reqs, .int .i64 x.left]] w fun e w' => (∃ y g, e = .returned (.pointer (some ⟨g, 0, none⟩)) ∧ y.d = x.d ∧ RefD w' w.heap.size g y ∧ RowsG w' w.heap.size g y) ∧ Below w.heap.size w w' := own_at x w hx hv.fit
theorem rread_p (y : DV) (a : Int) (base g : Nat) (w : World) (h : RefD w base g y) (D D' : Dsk) (bs : List UInt8) (er : Int) (hd : y.d = D) (hv : Valid D) (hh : HasC D a) (hr : readA D a = (D', bs, er)) :
    Calls Try.prog 22 #[.pointer (some ⟨g, 0, none⟩), .int .i64 a] w fun e w' => (∃ r : Row, e = .returned (.agg #[.int .i64 er, .slice r.A r.l.length r.c]) ∧ r.l = bs ∧ RIn w' w'.heap.size r) ∧ (∃ z : DV, z.d = D' ∧ RefD w' base g z) ∧ Below base w w' := by
  subst hd
  rw [readA, if_neg (not_not_intro ⟨hv, hh⟩)] at hr
  by_cases hl : y.d.left = 0
  · rw [if_pos hl] at hr
    simp only [Prod.mk.injEq] at hr
    obtain ⟨rfl, rfl, rfl⟩ := hr
    refine (rread_dead y a base g w h hl).mono ?_
    rintro e w' ⟨rfl, h2, h3⟩
    exact ⟨⟨⟨none, 0, []⟩, rfl, rfl, zrow_in _ _⟩, ⟨y, rfl, h2⟩, h3⟩
  · rw [if_neg hl] at hr
    simp only [Prod.mk.injEq] at hr
    obtain ⟨rfl, hc⟩ := hr
    refine (rread_ok y a base g w h hv hl hh.1 (by have := hh.2; rwa [show y.d.cells.length = y.cs.length from cds_length _] at this)).mono ?_
    rintro e w' ⟨⟨r, rfl, h1, h2⟩, h3, h4⟩
    rw [hc] at h1 ⊢
    exact ⟨⟨r, rfl, h1, h2⟩, ⟨_, rfl, h3⟩, h4⟩
theorem rwrite_p (y : DV) (a : Int) (b : Row) (base g : Nat) (w : World) (h : RefD w base g y) (hR : RowsG w base g y) (hb : RIn w base b) (D D' : Dsk) (er : Int) (hd : y.d = D) (hv : Valid D) (hh : HasC D a) (hl : b.l.length ≤ 200) (hr : writeA D a b.l = (D', er)) :
    Calls Try.prog 24 #[.pointer (some ⟨g, 0, none⟩), .int .i64 a, .slice b.A b.l.length b.c] w fun e w' => e = .returned (.int .i64 er) ∧ (∃ z : DV, z.d = D' ∧ RefD w' base g z) ∧ Below base w w' := by
  subst hd
  rw [writeA, if_neg (not_not_intro ⟨hv, hh, hl⟩)] at hr
  by_cases hd : y.d.left = 0
  · rw [if_pos hd] at hr
    simp only [Prod.mk.injEq] at hr
    obtain ⟨rfl, rfl⟩ := hr
    refine (rwrite_dead y a b base g w h hd).mono ?_
    rintro e w' ⟨rfl, h2, h3⟩
    exact ⟨rfl, ⟨y, rfl, h2⟩, h3⟩
  · rw [if_neg hd] at hr
    refine (rwrite_ok y a b base g w h hR hv hd hh.1 (by have := hh.2; rwa [show y.d.cells.length = y.cs.length from cds_length _] at this) hb hl).mono ?_
    rintro e w' ⟨rfl, ⟨z, h1, h2⟩, h3⟩
    by_cases hbad : bad y.d a
    · rw [if_pos hbad] at hr h1
      rw [if_pos hbad]
      simp only [Prod.mk.injEq] at hr
      obtain ⟨rfl, rfl⟩ := hr
      exact ⟨rfl, ⟨z, h1, h2⟩, h3⟩
    · rw [if_neg hbad] at hr h1
      rw [if_neg hbad]
      simp only [Prod.mk.injEq] at hr
      obtain ⟨rfl, rfl⟩ := hr
      exact ⟨rfl, ⟨z, h1, h2⟩, h3⟩
theorem rflush_p (y : DV) (base g : Nat) (w : World) (h : RefD w base g y) (D D' : Dsk) (er : Int) (hd : y.d = D) (hv : Valid D) (hr : flushA D = (D', er)) :
    Calls Try.prog 25 #[.pointer (some ⟨g, 0, none⟩)] w fun e w' => e = .returned (.int .i64 er) ∧ (∃ z : DV, z.d = D' ∧ RefD w' base g z) ∧ Below base w w' := by
  subst hd
  rw [flushA, if_neg (not_not_intro hv)] at hr
  by_cases hd : y.d.left = 0
  · rw [if_pos hd] at hr
    simp only [Prod.mk.injEq] at hr
    obtain ⟨rfl, rfl⟩ := hr
    refine (rflush_dead y base g w h hd).mono ?_
    rintro e w' ⟨rfl, h2, h3⟩
    exact ⟨rfl, ⟨y, rfl, h2⟩, h3⟩
  · rw [if_neg hd] at hr
    simp only [Prod.mk.injEq] at hr
    obtain ⟨rfl, rfl⟩ := hr
    exact rflush_ok y base g w h hv hd
theorem rcrash_p (y : DV) (keep : Int) (base g : Nat) (w : World) (h : RefD w base g y) (D D' : Dsk) (hd : y.d = D) (hv : Valid D) (k0 : 0 ≤ keep) (k1 : keep ≤ 9223372036854775807) (hr : crashA D keep = (D', 0)) :
    Calls Try.prog 26 #[.pointer (some ⟨g, 0, none⟩), .int .i64 keep] w fun e w' => e = .returned (.tuple #[]) ∧ (∃ z : DV, z.d = D' ∧ RefD w' base g z) ∧ Below base w w' := by
  subst hd
  rw [crashA, if_neg (not_not_intro ⟨hv, k0⟩)] at hr
  simp only [Prod.mk.injEq] at hr
  obtain ⟨rfl, -⟩ := hr
  exact rcrash_at y keep base g w h hv k0 k1
theorem rfault_p (y : DV) (kind a fr bit bits : Int) (base g : Nat) (w : World) (h : RefD w base g y) (D D' : Dsk) (er : Int) (hd : y.d = D) (hv : Valid D) (hr : faultA D kind a fr bit bits = (D', er)) :
    Calls Try.prog 27 #[.pointer (some ⟨g, 0, none⟩), .int .i64 kind, .int .i64 a, .int .i64 fr, .int .i64 bit, .int .i64 bits] w fun e w' => e = .returned (.int .i64 er) ∧ (∃ z : DV, (er = 0 → z.d = D') ∧ RefD w' base g z) ∧ Below base w w' := by
  subst hd
  have c := rfault_at y kind a fr bit bits base g w h hv
  rw [hr] at c
  exact c
theorem fault_q (x : DV) (kind a fr bit bits : Int) (w : World) (D D' : Dsk) (er : Int) (hx : x.In w w.heap.size) (hd : x.d = D) (h : faultA D kind a fr bit bits = (D', er)) :
    Calls Try.prog 16 #[.agg #[.slice x.CA x.cs.length x.cc, .slice x.WA x.ws.length x.wc, .int .i64 x.reqs, .int .i64 x.left], .int .i64 kind, .int .i64 a, .int .i64 fr, .int .i64 bit, .int .i64 bits] w fun e w' => (∃ y : DV, e = .returned (.tuple #[.agg #[.slice y.CA y.cs.length y.cc, .slice y.WA y.ws.length y.wc, .int .i64 y.reqs, .int .i64 y.left], .int .i64 er]) ∧ y.d = D' ∧ y.Own w' w.heap.size) ∧ Below w.heap.size w w' := by
  have c := fault_at x kind a fr bit bits w hx
  rw [hd, h] at c
  exact c
theorem readA_len {D D' : Dsk} {a er : Int} {bs : List UInt8} (h : Valid D) (hr : readA D a = (D', bs, er)) : bs.length ≤ 200 := by
  unfold readA at hr
  split at hr
  · simp only [Prod.mk.injEq] at hr
    obtain ⟨-, rfl, -⟩ := hr
    exact Nat.zero_le _
  · split at hr
    · simp only [Prod.mk.injEq] at hr
      obtain ⟨-, rfl, -⟩ := hr
      exact Nat.zero_le _
    · simp only [Prod.mk.injEq] at hr
      have hc := content_len h a
      rw [hr.2] at hc
      exact hc
/-- Where a fault is refused the disk told is none. -/
theorem faultA_no {D D' : Dsk} {kind a fr bit bits er : Int} (hr : faultA D kind a fr bit bits = (D', er)) : (er = 0 ∨ er = 1 ∨ er = 9) ∧ (er ≠ 0 → D' = noDsk) := by
  unfold faultA at hr
  split at hr
  · simp only [Prod.mk.injEq] at hr
    obtain ⟨rfl, rfl⟩ := hr
    exact ⟨by omega, fun _ => rfl⟩
  · split at hr
    · simp only [Prod.mk.injEq] at hr
      obtain ⟨rfl, rfl⟩ := hr
      exact ⟨by omega, fun _ => rfl⟩
    · split at hr
      · simp only [Prod.mk.injEq] at hr
        obtain ⟨rfl, rfl⟩ := hr
        exact ⟨by omega, fun _ => rfl⟩
      · simp only [Prod.mk.injEq] at hr
        obtain ⟨rfl, rfl⟩ := hr
        exact ⟨by omega, fun h => absurd rfl h⟩
end Go.Proofs.Ytegcbmimndmfkaa.dsk
