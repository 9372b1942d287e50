/-
  casematekeep.TwinDisk: the walk. Conditions: rows and byte strings shorter than 2^20.
-/
import Derived.Test.YtegcbmimndmfkaaDkO
import Derived.Deep.RegionHeld3
import Derived.Test.YtegcbmimndmfkaaTail
namespace Go.Proofs.Ytegcbmimndmfkaa.dsk
open Go.RowKit Go.Lib

/-- A disk's bytes are one's own, too. -/
def dRows (w : World) (base : Nat) (y : DV) : Prop := (∀ r ∈ y.cs, Own w base 5 r.b.v r.b.l ∧ Own w base 5 r.o.v r.o.l) ∧ ∀ r ∈ y.ws, Own w base 5 r.b.v r.b.l
set_option maxHeartbeats 2000000 in
theorem twin_disk (x : DV) (w : World) (hx : x.In w w.heap.size) (hn : x.cs.length ≤ 1048576 ∧ x.ws.length ≤ 1048576) (hs : CShort 1048576 x.cs) (ht : WShort 1048576 x.ws) :
    Calls Try.prog 11 #[x.v] w fun e w' => (∃ y : DV, e = .returned y.v ∧ y.d = x.d ∧ y.Own w' w.heap.size ∧ dRows w' w.heap.size y) ∧ Below w.heap.size w w' := by
  unfold DV.v
  have P0 := four_new w (.slice x.CA x.cs.length x.cc) (.slice x.WA x.ws.length x.wc) (.int .i64 x.reqs) (.int .i64 x.left) 25
  have B0 := bl w (.cells #[.slice x.CA x.cs.length x.cc, .slice x.WA x.ws.length x.wc, .int .i64 x.reqs, .int .i64 x.left] 25)
  have L0 : (w.alloc (.cells #[.slice x.CA x.cs.length x.cc, .slice x.WA x.ws.length x.wc, .int .i64 x.reqs, .int .i64 x.left] 25)).heap.size = w.heap.size + 1 := by simp
  go_enter Try.func11, Try.ntmps11
  go_wp2_with fail
  generalize w.alloc (.cells #[.slice x.CA x.cs.length x.cc, .slice x.WA x.ws.length x.wc, .int .i64 x.reqs, .int .i64 x.left] 25) = w0 at *
  have Q0 := four_new w0 (.slice none 0 0) (.slice none 0 0) (.int .i64 0) (.int .i64 0) 25
  have P1 := P0.alloc (by omega) (.cells #[.slice none 0 0, .slice none 0 0, .int .i64 0, .int .i64 0] 25)
  have B1 := kal B0 (.cells #[.slice none 0 0, .slice none 0 0, .int .i64 0, .int .i64 0] 25)
  have L1 : (w0.alloc (.cells #[.slice none 0 0, .slice none 0 0, .int .i64 0, .int .i64 0] 25)).heap.size = w.heap.size + 2 := by simp [L0]
  generalize w0.alloc (.cells #[.slice none 0 0, .slice none 0 0, .int .i64 0, .int .i64 0] 25) = w1 at *
  have R0 := four_new w1 (.slice none 0 0) (.slice none 0 0) (.int .i64 x.reqs) (.int .i64 x.left) 25
  have P2 := P1.alloc (by omega) (.cells #[.slice none 0 0, .slice none 0 0, .int .i64 x.reqs, .int .i64 x.left] 25)
  have Q1 := Q0.alloc (by omega) (.cells #[.slice none 0 0, .slice none 0 0, .int .i64 x.reqs, .int .i64 x.left] 25)
  have B2 := kal B1 (.cells #[.slice none 0 0, .slice none 0 0, .int .i64 x.reqs, .int .i64 x.left] 25)
  have L2 : (w1.alloc (.cells #[.slice none 0 0, .slice none 0 0, .int .i64 x.reqs, .int .i64 x.left] 25)).heap.size = w.heap.size + 3 := by simp [L1]
  generalize w1.alloc (.cells #[.slice none 0 0, .slice none 0 0, .int .i64 x.reqs, .int .i64 x.left] 25) = w2 at *
  rw [L0] at Q1
  rw [L1] at R0
  clear P0 P1 Q0 B0 B1 L0 L1 w0 w1
  go_loopw [4] (fun i w' => ∃ (k : Nat) (rs : List CellR) (v : Value), k ≤ x.cs.length ∧ i = .int .i64 k ∧ cds rs = (cds x.cs).take k ∧ OwnC w' (w.heap.size + 3) v rs ∧ Four w' w.heap.size (.slice x.CA x.cs.length x.cc) (.slice x.WA x.ws.length x.wc) (.int .i64 x.reqs) (.int .i64 x.left) ∧
      Four w' (w.heap.size + 1) (.slice none 0 0) (.slice none 0 0) (.int .i64 0) (.int .i64 0) ∧ Four w' (w.heap.size + 1 + 1) v (.slice none 0 0) (.int .i64 x.reqs) (.int .i64 x.left) ∧ Below w.heap.size w w' ∧ w.heap.size + 3 ≤ w'.heap.size) (fun i _ => x.cs.length - (RowKit.intOf i).toNat)
  case atStart => exact ⟨0, [], .slice none 0 0, by omega, rfl, rfl, ownC_nil _ _, P2, Q1, R0, B2, by omega⟩
  case round =>
    rename_i wr
    obtain ⟨k, rs, v, hk, rfl, hrs, hown, P3, Q3, R3, hbr, hl3⟩ := hrel
    by_cases hlt : k < x.cs.length
    · have hX := hx.below hbr
      obtain ⟨b1, off, u, e3, hb1, r0, r1, r2, m1, m2, hu, -, e1⟩ := cell_at hX.hc hX.ci hlt
      have m5 := hs _ hu
      have hn1 := hn.1
      have i1 : (k : Int) < (x.cs.length : Int) := by omega
      have hl2 : w.heap.size + 1 + 1 ≤ wr.heap.size := by omega
      have hlk : rs.length = k := by
        have := congrArg List.length hrs
        rw [cds_length, List.length_take, cds_length] at this
        omega
      have HL : Hid (cds rs ++ [u.d] = (cds x.cs).take (k + 1)) := by
        show _ = _
        rw [take_next e1, hrs]
      have P5 := P3
      rw [e3] at P5
      have cB : ∀ W, Below (w.heap.size + 1 + 1) wr W → Calls Try.prog 29 #[.slice u.b.A u.b.l.length u.b.c] W fun e w' => One W.heap.size u.b.l e w' ∧ Below W.heap.size W w' := fun W hW => twin_any _ _ _ _ _ (m1.below (hW.mono (by omega))).1 m5.1
      have cO : ∀ W, Below (w.heap.size + 1 + 1) wr W → Calls Try.prog 29 #[.slice u.o.A u.o.l.length u.o.c] W fun e w' => One W.heap.size u.o.l e w' ∧ Below W.heap.size W w' := fun W hW => twin_any _ _ _ _ _ (m2.below (hW.mono (by omega))).1 m5.2
      have p0 := P5.c0
      have p2 := R3.c0
      have HX := Lib.hid e3
      clear m1 m2 m5 hX hu hx hs ht e1 hrs e3 P5
      go_wp2_with fail
      refine wp_region_tail (S := fun W => W.cell? ⟨w.heap.size, 0, none⟩ = some (.slice (some ⟨b1, off, none⟩) x.cs.length x.cc) ∧ W.cell? ⟨w.heap.size + 1 + 1, 0, none⟩ = some v ∧ W.cell? ⟨b1, off + k * 3, none⟩ = some (.int .i64 u.st) ∧
          W.cell? ⟨b1, off + k * 3 + 1, none⟩ = some (.slice u.b.A u.b.l.length u.b.c) ∧ W.cell? ⟨b1, off + k * 3 + 2, none⟩ = some (.slice u.o.A u.o.l.length u.o.c) ∧ Below (w.heap.size + 1 + 1) wr W) 26 rfl (by kernel_rfl) (by kernel_rfl) ⟨p0, p2, r0, r1, r2, below_dr (Below.refl _ _)⟩ (fun hS => ?_)
      simp only [List.take_succ_cons, List.take_zero]
      (refine wpAnyH_take (i := 0) (v := ?_) rfl (by kernel_rfl) (by kernel_rfl) (by kernel_rfl) (fun _ _ _ h => h) (Or.inl ⟨by rfl, ?_⟩) (by assumption) ?_; rotate_left; (focus (intro w hSw; (try dsimp only at hSw); go_split_ands; go_simp <;> with_reducible rfl)); simp only [List.getElem_toArray, List.getElem_cons_zero, Act.put, List.setIfInBounds_toArray, List.set_cons_zero, List.set_cons_succ])
      (refine wpAnyH_take (i := 1) (v := ?_) rfl (by kernel_rfl) (by kernel_rfl) (by kernel_rfl) (fun _ _ _ h => h) (Or.inl ⟨by rfl, ?_⟩) (by assumption) ?_; rotate_left; (focus (intro w hSw; (try dsimp only at hSw); go_split_ands; go_simp <;> with_reducible rfl)); simp only [List.getElem_toArray, List.getElem_cons_zero, List.getElem_cons_succ, Act.put, List.setIfInBounds_toArray, List.set_cons_zero, List.set_cons_succ])
      (refine wpAnyH_take (i := 2) (v := ?_) rfl (by kernel_rfl) (by kernel_rfl) (by kernel_rfl) (fun _ _ _ h => h) (Or.inl ⟨by rfl, ?_⟩) (by assumption) ?_; rotate_left; (focus (intro w hSw; (try dsimp only at hSw); go_split_ands; go_simp <;> with_reducible rfl)); simp only [List.getElem_toArray, List.getElem_cons_zero, List.getElem_cons_succ, Act.put, List.setIfInBounds_toArray, List.set_cons_zero, List.set_cons_succ])
      (refine wpAnyH_take (i := 3) (v := ?_) rfl (by kernel_rfl) (by kernel_rfl) (by kernel_rfl) (fun _ _ _ h => h) (Or.inl ⟨by rfl, ?_⟩) (by assumption) ?_; rotate_left; (focus (intro w hSw; (try dsimp only at hSw); go_split_ands; go_simp <;> with_reducible rfl)); simp only [List.getElem_toArray, List.getElem_cons_zero, List.getElem_cons_succ, Act.put, List.setIfInBounds_toArray, List.set_cons_zero, List.set_cons_succ])
      (refine wpAnyH_take (i := 4) (v := ?_) rfl (by kernel_rfl) (by kernel_rfl) (by kernel_rfl) (fun _ _ _ h => h) (Or.inl ⟨by rfl, ?_⟩) (by assumption) ?_; rotate_left; (focus (intro w hSw; (try dsimp only at hSw); go_split_ands; go_simp <;> with_reducible rfl)); simp only [List.getElem_toArray, List.getElem_cons_zero, List.getElem_cons_succ, Act.put, List.setIfInBounds_toArray, List.set_cons_zero, List.set_cons_succ])
      (refine wpAnyH_take (i := 5) (v := ?_) rfl (by kernel_rfl) (by kernel_rfl) (by kernel_rfl) (fun _ _ _ h => h) (Or.inl ⟨by rfl, ?_⟩) (by assumption) ?_; rotate_left; (focus (intro w hSw; (try dsimp only at hSw); go_split_ands; go_simp <;> with_reducible rfl)); simp only [List.getElem_toArray, List.getElem_cons_zero, List.getElem_cons_succ, Act.put, List.setIfInBounds_toArray, List.set_cons_zero, List.set_cons_succ])
      (refine wpAnyH_take (i := 6) (v := ?_) rfl (by kernel_rfl) (by kernel_rfl) (by kernel_rfl) (fun _ _ _ h => h) (Or.inl ⟨by rfl, ?_⟩) (by assumption) ?_; rotate_left; (focus (intro w hSw; (try dsimp only at hSw); go_split_ands; go_simp <;> with_reducible rfl)); simp only [List.getElem_toArray, List.getElem_cons_zero, List.getElem_cons_succ, Act.put, List.setIfInBounds_toArray, List.set_cons_zero, List.set_cons_succ])
      (refine wpAnyH_take (i := 7) (v := ?_) rfl (by kernel_rfl) (by kernel_rfl) (by kernel_rfl) (fun _ _ _ h => h) (Or.inl ⟨by rfl, ?_⟩) (by assumption) ?_; rotate_left; (focus (intro w hSw; (try dsimp only at hSw); go_split_ands; go_simp <;> with_reducible rfl)); simp only [List.getElem_toArray, List.getElem_cons_zero, List.getElem_cons_succ, Act.put, List.setIfInBounds_toArray, List.set_cons_zero, List.set_cons_succ])
      (refine wpAnyH_take (i := 8) (v := ?_) rfl (by kernel_rfl) (by kernel_rfl) (by kernel_rfl) (fun _ _ _ h => h) (Or.inl ⟨by rfl, ?_⟩) (by assumption) ?_; rotate_left; (focus (intro w hSw; (try dsimp only at hSw); go_split_ands; go_simp <;> with_reducible rfl)); simp only [List.getElem_toArray, List.getElem_cons_zero, List.getElem_cons_succ, Act.put, List.setIfInBounds_toArray, List.set_cons_zero, List.set_cons_succ])
      (refine wpAnyH_take (i := 9) (v := ?_) rfl (by kernel_rfl) (by kernel_rfl) (by kernel_rfl) (fun _ _ _ h => h) (Or.inl ⟨by rfl, ?_⟩) (by assumption) ?_; rotate_left; (focus (intro w hSw; (try dsimp only at hSw); go_split_ands; go_simp <;> with_reducible rfl)); simp only [List.getElem_toArray, List.getElem_cons_zero, List.getElem_cons_succ, Act.put, List.setIfInBounds_toArray, List.set_cons_zero, List.set_cons_succ])
      (refine wpAnyH_take (i := 10) (v := ?_) rfl (by kernel_rfl) (by kernel_rfl) (by kernel_rfl) (fun _ _ _ h => h) (Or.inl ⟨by rfl, ?_⟩) (by assumption) ?_; rotate_left; (focus (intro w hSw; (try dsimp only at hSw); go_split_ands; go_simp <;> with_reducible rfl)); simp only [List.getElem_toArray, List.getElem_cons_zero, List.getElem_cons_succ, Act.put, List.setIfInBounds_toArray, List.set_cons_zero, List.set_cons_succ])
      (refine wpAnyH_take (i := 11) (v := ?_) rfl (by kernel_rfl) (by kernel_rfl) (by kernel_rfl) (fun _ _ _ h => h) (Or.inl ⟨by rfl, ?_⟩) (by assumption) ?_; rotate_left; (focus (intro w hSw; (try dsimp only at hSw); go_split_ands; go_simp <;> with_reducible rfl)); simp only [List.getElem_toArray, List.getElem_cons_zero, List.getElem_cons_succ, Act.put, List.setIfInBounds_toArray, List.set_cons_zero, List.set_cons_succ])
      (refine wpAnyH_take (i := 12) (v := ?_) rfl (by kernel_rfl) (by kernel_rfl) (by kernel_rfl) (fun _ _ _ h => h) (Or.inl ⟨by rfl, ?_⟩) (by assumption) ?_; rotate_left; (focus (intro w hSw; (try dsimp only at hSw); go_split_ands; go_simp <;> with_reducible rfl)); simp only [List.getElem_toArray, List.getElem_cons_zero, List.getElem_cons_succ, Act.put, List.setIfInBounds_toArray, List.set_cons_zero, List.set_cons_succ])
      (refine wpAnyH_take (i := 13) (v := ?_) rfl (by kernel_rfl) (by kernel_rfl) (by kernel_rfl) (fun _ _ _ h => h) (Or.inl ⟨by rfl, ?_⟩) (by assumption) ?_; rotate_left; (focus (intro w hSw; (try dsimp only at hSw); go_split_ands; go_simp <;> with_reducible rfl)); simp only [List.getElem_toArray, List.getElem_cons_zero, List.getElem_cons_succ, Act.put, List.setIfInBounds_toArray, List.set_cons_zero, List.set_cons_succ])
      (refine wpAnyH_take (i := 15) (v := ?_) rfl (by kernel_rfl) (by kernel_rfl) (by kernel_rfl) (fun _ _ _ h => h) (Or.inl ⟨by rfl, ?_⟩) (by assumption) ?_; rotate_left; (focus (intro w hSw; (try dsimp only at hSw); go_split_ands; go_simp <;> with_reducible rfl)); simp only [List.getElem_toArray, List.getElem_cons_zero, List.getElem_cons_succ, Act.put, List.setIfInBounds_toArray, List.set_cons_zero, List.set_cons_succ])
      (refine wpAnyH_take (i := 16) (v := ?_) rfl (by kernel_rfl) (by kernel_rfl) (by kernel_rfl) (fun _ _ _ h => h) (Or.inl ⟨by rfl, ?_⟩) (by assumption) ?_; rotate_left; (focus (intro w hSw; (try dsimp only at hSw); go_split_ands; go_simp <;> with_reducible rfl)); simp only [List.getElem_toArray, List.getElem_cons_zero, List.getElem_cons_succ, Act.put, List.setIfInBounds_toArray, List.set_cons_zero, List.set_cons_succ])
      (refine wpAnyH_take (i := 17) (v := ?_) rfl (by kernel_rfl) (by kernel_rfl) (by kernel_rfl) (fun _ _ _ h => h) (Or.inl ⟨by rfl, ?_⟩) (by assumption) ?_; rotate_left; (focus (intro w hSw; (try dsimp only at hSw); go_split_ands; go_simp <;> with_reducible rfl)); simp only [List.getElem_toArray, List.getElem_cons_zero, List.getElem_cons_succ, Act.put, List.setIfInBounds_toArray, List.set_cons_zero, List.set_cons_succ])
      (refine wpAnyH_take (i := 18) (v := ?_) rfl (by kernel_rfl) (by kernel_rfl) (by kernel_rfl) (fun _ _ _ h => h) (Or.inl ⟨by rfl, ?_⟩) (by assumption) ?_; rotate_left; (focus (intro w hSw; (try dsimp only at hSw); go_split_ands; go_simp <;> with_reducible rfl)); simp only [List.getElem_toArray, List.getElem_cons_zero, List.getElem_cons_succ, Act.put, List.setIfInBounds_toArray, List.set_cons_zero, List.set_cons_succ])
      (refine wpAnyH_take (i := 19) (v := ?_) rfl (by kernel_rfl) (by kernel_rfl) (by kernel_rfl) (fun _ _ _ h => h) (Or.inl ⟨by rfl, ?_⟩) (by assumption) ?_; rotate_left; (focus (intro w hSw; (try dsimp only at hSw); go_split_ands; go_simp <;> with_reducible rfl)); simp only [List.getElem_toArray, List.getElem_cons_zero, List.getElem_cons_succ, Act.put, List.setIfInBounds_toArray, List.set_cons_zero, List.set_cons_succ])
      (refine wpAnyH_take (i := 20) (v := ?_) rfl (by kernel_rfl) (by kernel_rfl) (by kernel_rfl) (fun _ _ _ h => h) (Or.inl ⟨by rfl, ?_⟩) (by assumption) ?_; rotate_left; (focus (intro w hSw; (try dsimp only at hSw); go_split_ands; go_simp <;> with_reducible rfl)); simp only [List.getElem_toArray, List.getElem_cons_zero, List.getElem_cons_succ, Act.put, List.setIfInBounds_toArray, List.set_cons_zero, List.set_cons_succ])
      refine wpAnyH_ready (rs := [14]) (by kernel_rfl) (by simp) ?_
      refine AllReadyH.cons rfl (fun K hK => ?_) AllReadyH.nil
      go_simp
      (with_reducible refine (cB _ (below_dr (Below.refl _ _))).mono ?_)
      rintro e wb ⟨⟨vb, rfl, ob⟩, hbb⟩
      obtain ⟨Xb, cb, rfl, -, -, -, -⟩ := id ob.form
      have sb : Below (w.heap.size + 1 + 1) wr wb := bm (below_dr (Below.refl _ _)) hl2 hbb
      have tb : Below wr.heap.size wr wb := bt (below_dr (Below.refl _ _)) hbb
      refine hK.out _ _ ⟨ks sb (by omega) p0, ks tb (by omega) p2, ks sb (by omega) r0, ks sb (by omega) r1, ks sb (by omega) r2, sb⟩ (fun hS => ?_)
      clear hK K
      refine wpAnyH_ready (rs := [21]) (by kernel_rfl) (by simp) ?_
      refine AllReadyH.cons rfl (fun K hK => ?_) AllReadyH.nil
      go_simp
      (with_reducible refine (cO _ sb).mono ?_)
      rintro e wo ⟨⟨vo, rfl, oo⟩, hbo⟩
      obtain ⟨Xo, co, rfl, -, -, -, -⟩ := id oo.form
      have so : Below (w.heap.size + 1 + 1) wr wo := bm sb hl2 hbo
      have to : Below wr.heap.size wr wo := bt tb hbo
      refine hK.out _ _ ⟨ks so (by omega) p0, ks to (by omega) p2, ks so (by omega) r0, ks so (by omega) r1, ks so (by omega) r2, so⟩ (fun hS => ?_)
      clear hK K
      (refine wpAnyH_take (i := 22) (v := ?_) rfl (by kernel_rfl) (by kernel_rfl) (by kernel_rfl) (fun _ _ _ h => h) (Or.inl ⟨by rfl, ?_⟩) (by assumption) ?_; rotate_left; (focus (intro w hSw; (try dsimp only at hSw); go_split_ands; go_simp <;> with_reducible rfl)); simp only [List.getElem_toArray, List.getElem_cons_zero, List.getElem_cons_succ, Act.put, List.setIfInBounds_toArray, List.set_cons_zero, List.set_cons_succ])
      refine wpAnyH_ready (rs := [23]) (by kernel_rfl) (by simp) ?_
      refine AllReadyH.cons rfl (fun K hK => ?_) AllReadyH.nil
      go_simp
      have sa : Below (w.heap.size + 1 + 1) wr (wo.alloc (.cells #[.int .i64 u.st, .slice Xb u.b.l.length cb, .slice Xo u.o.l.length co] 64)) := ka so hl2 _
      have ta : Below wr.heap.size wr (wo.alloc (.cells #[.int .i64 u.st, .slice Xb u.b.l.length cb, .slice Xo u.o.l.length co] 64)) := kal to _
      refine hK.out _ _ ⟨ks sa (by omega) p0, ks ta (by omega) p2, ks sa (by omega) r0, ks sa (by omega) r1, ks sa (by omega) r2, sa⟩ (fun hS => ?_)
      clear hK K
      refine wpAnyH_ready (rs := [24]) (by kernel_rfl) (by simp) ?_
      refine AllReadyH.cons rfl (fun K hK => ?_) AllReadyH.nil
      have ow := hown.below ta
      have la : wr.heap.size ≤ (wo.alloc (.cells #[.int .i64 u.st, .slice Xb u.b.l.length cb, .slice Xo u.o.l.length co] 64)).heap.size := ta.size
      have oB := (Own.below ob hbo).below (bl wo (.cells #[.int .i64 u.st, .slice Xb u.b.l.length cb, .slice Xo u.o.l.length co] 64))
      have oO := Own.below oo (bl wo (.cells #[.int .i64 u.st, .slice Xb u.b.l.length cb, .slice Xo u.o.l.length co] 64))
      have src := src_cell (P := Try.prog) (heap_alloc_new wo (.cells #[.int .i64 u.st, .slice Xb u.b.l.length cb, .slice Xo u.o.l.length co] 64)) Try.underlying22 (by simp [Value.oneCell'])
      generalize wo.alloc (.cells #[.int .i64 u.st, .slice Xb u.b.l.length cb, .slice Xo u.o.l.length co] 64) = wa at *
      refine step_row wa (by rfl) _ _ _ _ (by rfl) (w.heap.size + 3) 3 56 64 (.agg #[.int .i64 0, .slice none 0 0, .slice none 0 0]) Try.underlying22 c_info (by rfl) v rs.length (cvs rs) (by rfl) ow.1 _ 1 _ (by rfl) src (by rw [hlk]; unfold maxLen; omega) (by omega) (by omega) ?_
      intro v3 w3 h3 hg3
      have hb3 : Below (w.heap.size + 3) wa w3 := (Below.refl _ _).mono (by omega) |>.grown hg3 (by omega) (fun q hq => (World.ownsRow.lt ow.1 q hq).1)
      have bw3 : Below (w.heap.size + 3) wr w3 := (ta.mono hl3).trans hb3
      refine hK.out _ _ ⟨ks bw3 (by omega) p0, ks bw3 (by omega) p2, ks bw3 (by omega) r0, ks bw3 (by omega) r1, ks bw3 (by omega) r2, bw3.mono (by omega)⟩ (fun hS => ?_)
      clear hK K
      simp only [List.getElem_toArray, List.getElem_cons_zero, List.getElem_cons_succ, Act.put, List.setIfInBounds_toArray, List.set_cons_zero, List.set_cons_succ]
      (refine wpAnyH_take (i := 25) (v := ?_) rfl (by kernel_rfl) (by kernel_rfl) (by kernel_rfl) (fun _ _ _ h => h) (Or.inl ⟨by rfl, ?_⟩) (by assumption) ?_; rotate_left; (focus (intro w hSw; (try dsimp only at hSw); go_split_ands; go_simp <;> with_reducible rfl)); simp only [List.getElem_toArray, List.getElem_cons_zero, List.getElem_cons_succ, Act.put, List.setIfInBounds_toArray, List.set_cons_zero, List.set_cons_succ])
      refine wpAnyH_done (by kernel_rfl) ?_ _
      have P4 := P3.keep bw3 (by omega)
      have Q4 := Q3.keep bw3 (by omega)
      have R4 := R3.keep bw3 (by omega)
      have c4 := R4.c0
      have f4 := R4.f0
      obtain ⟨A3, c3, rfl, -, -, -⟩ := row_form h3
      simp only [tailQ]
      go_simp
      have oB2 := oB.less (base' := w.heap.size + 3) (by simp; omega)
      have oO2 := oO.less (base' := w.heap.size + 3) (by have := tb.size; omega)
      have hfin : OwnC (w3.setCell ⟨w.heap.size + 1 + 1, 0, none⟩ (.slice A3 (k + 1 : Nat) c3)) (w.heap.size + 3) (.slice A3 (k + 1 : Nat) c3) (rs ++ [⟨u.st, ⟨Xb, cb, u.b.l⟩, ⟨Xo, co, u.o.l⟩⟩]) := by
        rw [← hlk]
        exact OwnC.cell_set (ow.more (r := ⟨u.st, ⟨Xb, cb, u.b.l⟩, ⟨Xo, co, u.o.l⟩⟩) hg3 oB2 oO2 h3) (by omega) _
      have hbf : Below w.heap.size w (w3.setCell ⟨w.heap.size + 1 + 1, 0, none⟩ (.slice A3 (k + 1 : Nat) c3)) := (hbr.trans (bw3.mono (by omega))).setCell (show w.heap.size ≤ w.heap.size + 1 + 1 by omega) _
      have hsz := bw3.size
      go_wp2
      go_roundw
      case rel => exact ⟨k + 1, _, _, by omega, by go_num, by show (rs ++ [_]).map CellR.d = _; rw [List.map_append]; exact HL.out, hfin, P4.apart (by omega) _, Q4.apart (by omega) _, R4.set0 _, hbf, by simp; omega⟩
      case measure => simp [RowKit.intOf]; omega
    · have hrs2 : cds rs = cds x.cs := by rw [hrs, List.take_of_length_le (by rw [cds_length]; omega)]
      have HC := Lib.hid hrs2
      clear hrs hrs2 P2 Q1 R0 B2 L2
      have p0 := P3.c0
      go_wp2_with fail
      clear p0 hlt hk
      go_loopw [5] (fun i w' => ∃ (k : Nat) (ws : List WriR) (vw : Value), k ≤ x.ws.length ∧ i = .int .i64 k ∧ wds ws = (wds x.ws).take k ∧ OwnC w' (w.heap.size + 3) v rs ∧ OwnW w' (w.heap.size + 3) vw ws ∧ Four w' w.heap.size (.slice x.CA x.cs.length x.cc) (.slice x.WA x.ws.length x.wc) (.int .i64 x.reqs) (.int .i64 x.left) ∧
          Four w' (w.heap.size + 1) (.slice none 0 0) (.slice none 0 0) (.int .i64 0) (.int .i64 0) ∧ Four w' (w.heap.size + 1 + 1) v vw (.int .i64 x.reqs) (.int .i64 x.left) ∧ Below w.heap.size w w' ∧ w.heap.size + 3 ≤ w'.heap.size) (fun i _ => x.ws.length - (RowKit.intOf i).toNat)
      case atStart => exact ⟨0, [], .slice none 0 0, by omega, rfl, rfl, hown, ownW_nil _ _, P3, Q3, R3, hbr, hl3⟩
      case round =>
        clear P3 Q3 R3 hbr hl3 hown
        rename_i wr
        obtain ⟨k, ws, vw, hk, rfl, hws, hownC, hown, P3, Q3, R3, hbr, hl3⟩ := hrel
        by_cases hlt : k < x.ws.length
        · have hX := hx.below hbr
          obtain ⟨b1, off, u, e3, hb1, r0, r1, m1, hu, -, e1⟩ := write_at hX.hw hX.wi hlt
          have m5 := ht _ hu
          have hn1 := hn.2
          have i1 : (k : Int) < (x.ws.length : Int) := by omega
          have hl2 : w.heap.size + 1 + 1 ≤ wr.heap.size := by omega
          have hlk : ws.length = k := by
            have := congrArg List.length hws
            rw [wds_length, List.length_take, wds_length] at this
            omega
          have HL : Hid (wds ws ++ [u.d] = (wds x.ws).take (k + 1)) := by
            show _ = _
            rw [take_next e1, hws]
          have P5 := P3
          rw [e3] at P5
          have cO : ∀ W, Below (w.heap.size + 1 + 1) wr W → Calls Try.prog 29 #[.slice u.b.A u.b.l.length u.b.c] W fun e w' => One W.heap.size u.b.l e w' ∧ Below W.heap.size W w' := fun W hW => twin_any _ _ _ _ _ (m1.below (hW.mono (by omega))).1 m5
          have p0 := P5.c1
          have p2 := R3.c1
          have HX := Lib.hid e3
          clear m1 m5 hX hu hx hs ht e1 hws e3 P5
          go_wp2_with fail
          refine wp_region_tail (S := fun W => W.cell? ⟨w.heap.size, 1, none⟩ = some (.slice (some ⟨b1, off, none⟩) x.ws.length x.wc) ∧ W.cell? ⟨w.heap.size + 1 + 1, 1, none⟩ = some vw ∧ W.cell? ⟨b1, off + k * 2, none⟩ = some (.int .i64 u.addr) ∧
              W.cell? ⟨b1, off + k * 2 + 1, none⟩ = some (.slice u.b.A u.b.l.length u.b.c) ∧ Below (w.heap.size + 1 + 1) wr W) 19 rfl (by kernel_rfl) (by kernel_rfl) ⟨p0, p2, r0, r1, below_dr (Below.refl _ _)⟩ (fun hS => ?_)
          simp only [List.take_succ_cons, List.take_zero]
          (refine wpAnyH_take (i := 0) (v := ?_) rfl (by kernel_rfl) (by kernel_rfl) (by kernel_rfl) (fun _ _ _ h => h) (Or.inl ⟨by rfl, ?_⟩) (by assumption) ?_; rotate_left; (focus (intro w hSw; (try dsimp only at hSw); go_split_ands; go_simp <;> with_reducible rfl)); simp only [List.getElem_toArray, List.getElem_cons_zero, Act.put, List.setIfInBounds_toArray, List.set_cons_zero, List.set_cons_succ])
          (refine wpAnyH_take (i := 1) (v := ?_) rfl (by kernel_rfl) (by kernel_rfl) (by kernel_rfl) (fun _ _ _ h => h) (Or.inl ⟨by rfl, ?_⟩) (by assumption) ?_; rotate_left; (focus (intro w hSw; (try dsimp only at hSw); go_split_ands; go_simp <;> with_reducible rfl)); simp only [List.getElem_toArray, List.getElem_cons_zero, List.getElem_cons_succ, Act.put, List.setIfInBounds_toArray, List.set_cons_zero, List.set_cons_succ])
          (refine wpAnyH_take (i := 2) (v := ?_) rfl (by kernel_rfl) (by kernel_rfl) (by kernel_rfl) (fun _ _ _ h => h) (Or.inl ⟨by rfl, ?_⟩) (by assumption) ?_; rotate_left; (focus (intro w hSw; (try dsimp only at hSw); go_split_ands; go_simp <;> with_reducible rfl)); simp only [List.getElem_toArray, List.getElem_cons_zero, List.getElem_cons_succ, Act.put, List.setIfInBounds_toArray, List.set_cons_zero, List.set_cons_succ])
          (refine wpAnyH_take (i := 3) (v := ?_) rfl (by kernel_rfl) (by kernel_rfl) (by kernel_rfl) (fun _ _ _ h => h) (Or.inl ⟨by rfl, ?_⟩) (by assumption) ?_; rotate_left; (focus (intro w hSw; (try dsimp only at hSw); go_split_ands; go_simp <;> with_reducible rfl)); simp only [List.getElem_toArray, List.getElem_cons_zero, List.getElem_cons_succ, Act.put, List.setIfInBounds_toArray, List.set_cons_zero, List.set_cons_succ])
          (refine wpAnyH_take (i := 4) (v := ?_) rfl (by kernel_rfl) (by kernel_rfl) (by kernel_rfl) (fun _ _ _ h => h) (Or.inl ⟨by rfl, ?_⟩) (by assumption) ?_; rotate_left; (focus (intro w hSw; (try dsimp only at hSw); go_split_ands; go_simp <;> with_reducible rfl)); simp only [List.getElem_toArray, List.getElem_cons_zero, List.getElem_cons_succ, Act.put, List.setIfInBounds_toArray, List.set_cons_zero, List.set_cons_succ])
          (refine wpAnyH_take (i := 5) (v := ?_) rfl (by kernel_rfl) (by kernel_rfl) (by kernel_rfl) (fun _ _ _ h => h) (Or.inl ⟨by rfl, ?_⟩) (by assumption) ?_; rotate_left; (focus (intro w hSw; (try dsimp only at hSw); go_split_ands; go_simp <;> with_reducible rfl)); simp only [List.getElem_toArray, List.getElem_cons_zero, List.getElem_cons_succ, Act.put, List.setIfInBounds_toArray, List.set_cons_zero, List.set_cons_succ])
          (refine wpAnyH_take (i := 6) (v := ?_) rfl (by kernel_rfl) (by kernel_rfl) (by kernel_rfl) (fun _ _ _ h => h) (Or.inl ⟨by rfl, ?_⟩) (by assumption) ?_; rotate_left; (focus (intro w hSw; (try dsimp only at hSw); go_split_ands; go_simp <;> with_reducible rfl)); simp only [List.getElem_toArray, List.getElem_cons_zero, List.getElem_cons_succ, Act.put, List.setIfInBounds_toArray, List.set_cons_zero, List.set_cons_succ])
          (refine wpAnyH_take (i := 7) (v := ?_) rfl (by kernel_rfl) (by kernel_rfl) (by kernel_rfl) (fun _ _ _ h => h) (Or.inl ⟨by rfl, ?_⟩) (by assumption) ?_; rotate_left; (focus (intro w hSw; (try dsimp only at hSw); go_split_ands; go_simp <;> with_reducible rfl)); simp only [List.getElem_toArray, List.getElem_cons_zero, List.getElem_cons_succ, Act.put, List.setIfInBounds_toArray, List.set_cons_zero, List.set_cons_succ])
          (refine wpAnyH_take (i := 8) (v := ?_) rfl (by kernel_rfl) (by kernel_rfl) (by kernel_rfl) (fun _ _ _ h => h) (Or.inl ⟨by rfl, ?_⟩) (by assumption) ?_; rotate_left; (focus (intro w hSw; (try dsimp only at hSw); go_split_ands; go_simp <;> with_reducible rfl)); simp only [List.getElem_toArray, List.getElem_cons_zero, List.getElem_cons_succ, Act.put, List.setIfInBounds_toArray, List.set_cons_zero, List.set_cons_succ])
          (refine wpAnyH_take (i := 9) (v := ?_) rfl (by kernel_rfl) (by kernel_rfl) (by kernel_rfl) (fun _ _ _ h => h) (Or.inl ⟨by rfl, ?_⟩) (by assumption) ?_; rotate_left; (focus (intro w hSw; (try dsimp only at hSw); go_split_ands; go_simp <;> with_reducible rfl)); simp only [List.getElem_toArray, List.getElem_cons_zero, List.getElem_cons_succ, Act.put, List.setIfInBounds_toArray, List.set_cons_zero, List.set_cons_succ])
          (refine wpAnyH_take (i := 10) (v := ?_) rfl (by kernel_rfl) (by kernel_rfl) (by kernel_rfl) (fun _ _ _ h => h) (Or.inl ⟨by rfl, ?_⟩) (by assumption) ?_; rotate_left; (focus (intro w hSw; (try dsimp only at hSw); go_split_ands; go_simp <;> with_reducible rfl)); simp only [List.getElem_toArray, List.getElem_cons_zero, List.getElem_cons_succ, Act.put, List.setIfInBounds_toArray, List.set_cons_zero, List.set_cons_succ])
          (refine wpAnyH_take (i := 11) (v := ?_) rfl (by kernel_rfl) (by kernel_rfl) (by kernel_rfl) (fun _ _ _ h => h) (Or.inl ⟨by rfl, ?_⟩) (by assumption) ?_; rotate_left; (focus (intro w hSw; (try dsimp only at hSw); go_split_ands; go_simp <;> with_reducible rfl)); simp only [List.getElem_toArray, List.getElem_cons_zero, List.getElem_cons_succ, Act.put, List.setIfInBounds_toArray, List.set_cons_zero, List.set_cons_succ])
          (refine wpAnyH_take (i := 12) (v := ?_) rfl (by kernel_rfl) (by kernel_rfl) (by kernel_rfl) (fun _ _ _ h => h) (Or.inl ⟨by rfl, ?_⟩) (by assumption) ?_; rotate_left; (focus (intro w hSw; (try dsimp only at hSw); go_split_ands; go_simp <;> with_reducible rfl)); simp only [List.getElem_toArray, List.getElem_cons_zero, List.getElem_cons_succ, Act.put, List.setIfInBounds_toArray, List.set_cons_zero, List.set_cons_succ])
          (refine wpAnyH_take (i := 13) (v := ?_) rfl (by kernel_rfl) (by kernel_rfl) (by kernel_rfl) (fun _ _ _ h => h) (Or.inl ⟨by rfl, ?_⟩) (by assumption) ?_; rotate_left; (focus (intro w hSw; (try dsimp only at hSw); go_split_ands; go_simp <;> with_reducible rfl)); simp only [List.getElem_toArray, List.getElem_cons_zero, List.getElem_cons_succ, Act.put, List.setIfInBounds_toArray, List.set_cons_zero, List.set_cons_succ])
          refine wpAnyH_ready (rs := [14]) (by kernel_rfl) (by simp) ?_
          refine AllReadyH.cons rfl (fun K hK => ?_) AllReadyH.nil
          go_simp
          (with_reducible refine (cO _ (below_dr (Below.refl _ _))).mono ?_)
          rintro e wo ⟨⟨vo, rfl, oo⟩, hbo⟩
          obtain ⟨Xo, co, rfl, -, -, -, -⟩ := id oo.form
          have so : Below (w.heap.size + 1 + 1) wr wo := bm (below_dr (Below.refl _ _)) hl2 hbo
          have to : Below wr.heap.size wr wo := bt (below_dr (Below.refl _ _)) hbo
          refine hK.out _ _ ⟨ks so (by omega) p0, ks to (by omega) p2, ks so (by omega) r0, ks so (by omega) r1, so⟩ (fun hS => ?_)
          clear hK K
          (refine wpAnyH_take (i := 15) (v := ?_) rfl (by kernel_rfl) (by kernel_rfl) (by kernel_rfl) (fun _ _ _ h => h) (Or.inl ⟨by rfl, ?_⟩) (by assumption) ?_; rotate_left; (focus (intro w hSw; (try dsimp only at hSw); go_split_ands; go_simp <;> with_reducible rfl)); simp only [List.getElem_toArray, List.getElem_cons_zero, List.getElem_cons_succ, Act.put, List.setIfInBounds_toArray, List.set_cons_zero, List.set_cons_succ])
          refine wpAnyH_ready (rs := [16]) (by kernel_rfl) (by simp) ?_
          refine AllReadyH.cons rfl (fun K hK => ?_) AllReadyH.nil
          go_simp
          have sa : Below (w.heap.size + 1 + 1) wr (wo.alloc (.cells #[.int .i64 u.addr, .slice Xo u.b.l.length co] 72)) := ka so hl2 _
          have ta : Below wr.heap.size wr (wo.alloc (.cells #[.int .i64 u.addr, .slice Xo u.b.l.length co] 72)) := kal to _
          refine hK.out _ _ ⟨ks sa (by omega) p0, ks ta (by omega) p2, ks sa (by omega) r0, ks sa (by omega) r1, sa⟩ (fun hS => ?_)
          clear hK K
          refine wpAnyH_ready (rs := [17]) (by kernel_rfl) (by simp) ?_
          refine AllReadyH.cons rfl (fun K hK => ?_) AllReadyH.nil
          have ow := hown.below ta
          have oc := hownC.below ta
          have la : wr.heap.size ≤ (wo.alloc (.cells #[.int .i64 u.addr, .slice Xo u.b.l.length co] 72)).heap.size := ta.size
          have oO := Own.below oo (bl wo (.cells #[.int .i64 u.addr, .slice Xo u.b.l.length co] 72))
          have src := src_write (P := Try.prog) (heap_alloc_new wo (.cells #[.int .i64 u.addr, .slice Xo u.b.l.length co] 72)) Try.underlying23 (by simp [Value.oneCell'])
          generalize wo.alloc (.cells #[.int .i64 u.addr, .slice Xo u.b.l.length co] 72) = wa at *
          refine step_row wa (by rfl) _ _ _ _ (by rfl) (w.heap.size + 3) 2 32 72 (.agg #[.int .i64 0, .slice none 0 0]) Try.underlying23 w_info (by rfl) vw ws.length (wvs ws) (by rfl) ow.1 _ 1 _ (by rfl) src (by rw [hlk]; unfold maxLen; omega) (by omega) (by omega) ?_
          intro v3 w3 h3 hg3
          have hb3 : Below (w.heap.size + 3) wa w3 := (Below.refl _ _).mono (by omega) |>.grown hg3 (by omega) (fun q hq => (World.ownsRow.lt ow.1 q hq).1)
          have bw3 : Below (w.heap.size + 3) wr w3 := (ta.mono hl3).trans hb3
          refine hK.out _ _ ⟨ks bw3 (by omega) p0, ks bw3 (by omega) p2, ks bw3 (by omega) r0, ks bw3 (by omega) r1, bw3.mono (by omega)⟩ (fun hS => ?_)
          clear hK K
          simp only [List.getElem_toArray, List.getElem_cons_zero, List.getElem_cons_succ, Act.put, List.setIfInBounds_toArray, List.set_cons_zero, List.set_cons_succ]
          (refine wpAnyH_take (i := 18) (v := ?_) rfl (by kernel_rfl) (by kernel_rfl) (by kernel_rfl) (fun _ _ _ h => h) (Or.inl ⟨by rfl, ?_⟩) (by assumption) ?_; rotate_left; (focus (intro w hSw; (try dsimp only at hSw); go_split_ands; go_simp <;> with_reducible rfl)); simp only [List.getElem_toArray, List.getElem_cons_zero, List.getElem_cons_succ, Act.put, List.setIfInBounds_toArray, List.set_cons_zero, List.set_cons_succ])
          refine wpAnyH_done (by kernel_rfl) ?_ _
          have P4 := P3.keep bw3 (by omega)
          have Q4 := Q3.keep bw3 (by omega)
          have R4 := R3.keep bw3 (by omega)
          have c4 := R4.c1
          have f4 := R4.f1
          obtain ⟨A3, c3, rfl, -, -, -⟩ := row_form h3
          simp only [tailQ]
          go_simp
          have oO2 := oO.less (base' := w.heap.size + 3) (by simp; omega)
          have hfin : OwnW (w3.setCell ⟨w.heap.size + 1 + 1, 1, none⟩ (.slice A3 (k + 1 : Nat) c3)) (w.heap.size + 3) (.slice A3 (k + 1 : Nat) c3) (ws ++ [⟨u.addr, ⟨Xo, co, u.b.l⟩⟩]) := by
            rw [← hlk]
            exact OwnW.cell_set (ow.more (r := ⟨u.addr, ⟨Xo, co, u.b.l⟩⟩) hg3 oO2 h3) (by omega) _
          have hfc : OwnC (w3.setCell ⟨w.heap.size + 1 + 1, 1, none⟩ (.slice A3 (k + 1 : Nat) c3)) (w.heap.size + 3) v rs := (oc.other ow.1 hg3 cell_write u8_write).cell_set (by omega) _
          have hbf : Below w.heap.size w (w3.setCell ⟨w.heap.size + 1 + 1, 1, none⟩ (.slice A3 (k + 1 : Nat) c3)) := (hbr.trans (bw3.mono (by omega))).setCell (show w.heap.size ≤ w.heap.size + 1 + 1 by omega) _
          have hsz := bw3.size
          go_wp2
          go_roundw
          case rel => exact ⟨k + 1, _, _, by omega, by go_num, by show (ws ++ [_]).map WriR.d = _; rw [List.map_append]; exact HL.out, hfc, hfin, P4.apart (by omega) _, Q4.apart (by omega) _, R4.set1 _, hbf, by simp; omega⟩
          case measure => simp [RowKit.intOf]; omega
        · have hws2 : wds ws = wds x.ws := by rw [hws, List.take_of_length_le (by rw [wds_length]; omega)]
          have HW := Lib.hid hws2
          have p0 := P3.c1
          obtain ⟨r0, r1, r2, r3, -, -, -, -⟩ := id R3
          obtain ⟨q0, q1, q2, q3, f0, f1, f2, f3⟩ := id Q3
          clear hws hws2
          obtain ⟨A1, c1, rfl, n1, n2, s1⟩ := row_form hownC.1
          obtain ⟨A2, c2, rfl, n3, n4, s2⟩ := row_form hown.1
          go_wp2_with fail
          have k4 := (((Q3.set0 (.slice A1 rs.length c1)).set1 (.slice A2 ws.length c2)).set2 (.int .i64 x.reqs)).set3 (.int .i64 x.left)
          have hg : w.heap.size + 1 < w.heap.size + 3 := by omega
          have hc4 := ((((hownC.cell_set (o := 0) hg (.slice A1 rs.length c1)).cell_set (o := 1) hg (.slice A2 ws.length c2)).cell_set (o := 2) hg (.int .i64 x.reqs)).cell_set (o := 3) hg (.int .i64 x.left))
          have hw4 := ((((hown.cell_set (o := 0) hg (.slice A1 rs.length c1)).cell_set (o := 1) hg (.slice A2 ws.length c2)).cell_set (o := 2) hg (.int .i64 x.reqs)).cell_set (o := 3) hg (.int .i64 x.left))
          have hl : w.heap.size ≤ w.heap.size + 1 := by omega
          refine bodyPost_ret (v := .agg #[.slice A1 rs.length c1, .slice A2 ws.length c2, .int .i64 x.reqs, .int .i64 x.left]) (by simp [results, Try.results11, go_sem, k4.c0, k4.c1, k4.c2, k4.c3]) rfl ⟨⟨⟨A1, c1, rs, A2, c2, ws, x.reqs, x.left⟩, rfl, ?_, DV.Own.less ⟨hc4.1, hw4.1, (ownC_in hc4).2.1, (ownW_in hw4).2.1⟩ (by omega), ⟨fun r hr => ⟨(hc4.2 r hr).1.less (by omega), (hc4.2 r hr).2.less (by omega)⟩, fun r hr => (hw4.2 r hr).less (by omega)⟩⟩, (((hbr.setCell hl _).setCell hl _).setCell hl _).setCell hl _⟩
          show (⟨cds rs, wds ws, x.reqs, x.left⟩ : Dsk) = ⟨cds x.cs, wds x.ws, x.reqs, x.left⟩
          rw [HC.out, HW.out]
end Go.Proofs.Ytegcbmimndmfkaa.dsk
