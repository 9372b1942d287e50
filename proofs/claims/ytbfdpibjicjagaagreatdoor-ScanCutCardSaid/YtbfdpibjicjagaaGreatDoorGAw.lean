/-
  casematekeep.TwinAnchor: an anchor like it, its homes all of one's own. Conditions: rows shorter than 2^20.
  An anchor of one's own, one of its places or one of its next spares written over. Conditions: each law's own.
-/
import Derived.Test.YtbfdpibjicjagaaGreatDoorGAn
import Derived.Test.YtbfdpibjicjagaaGreatDoorTail
set_option maxHeartbeats 4000000
set_option maxRecDepth 100000
namespace Go.Proofs.YtbfdpibjicjagaaGreatDoor.anc
open Go.RowKit Go.Lib
def AV.Own (w : World) (base : Nat) (y : AV) : Prop := OwnH w base (.slice y.HA y.hs.length y.hc) y.hs
theorem AV.Own.inn {w : World} {base : Nat} {y : AV} (h : AV.Own w base y) : y.In w w.heap.size := by
 obtain ⟨h1, h2, h3⟩ := ownH_in h
 exact ⟨h1, h2, h3⟩
def Parted (rs : List HomR) : Prop := rs.Pairwise fun r q => ∀ a b, r.A = some a → q.A = some b → a.block ≠ b.block
theorem parted_nil : Parted [] := List.Pairwise.nil
theorem Parted.more {rs : List HomR} {r : HomR} {B : Nat} (h : Parted rs) (hlt : ∀ q ∈ rs, ∀ a, q.A = some a → a.block < B) (hr : ∀ a, r.A = some a → B ≤ a.block) : Parted (rs ++ [r]) := by
 refine List.pairwise_append.2 ⟨h, List.pairwise_singleton _ _, fun q hq u hu => ?_⟩
 obtain rfl := List.mem_singleton.1 hu
 intro a b ha hb hab
 have h1 := hlt q hq a ha
 have h2 := hr b hb
 omega
theorem own_ge {w : World} {base : Nat} {e : TypeId} {A : Option Addr} {n c : Nat} {vs : List Value} (h : OwnV w base e (.slice A n c) vs) (a : Addr) (ha : A = some a) : base ≤ a.block ∧ a.block < w.heap.size := World.ownsRow.lt h a.block (by rw [ha]; rfl)
theorem OwnH.lt {w : World} {base : Nat} {v : Value} {rs : List HomR} (h : OwnH w base v rs) : ∀ q ∈ rs, ∀ a, q.A = some a → a.block < w.heap.size := fun q hq a ha => (own_ge (h.2 q hq) a ha).2
theorem twin_go (ge ep po se la : Int) (lab : ByteArray) (HA : Option Addr) (n hc : Nat) (hs : List HomR) (w : World) (hln : hs.length = n) (hh : SlV w w.heap.size HA (hvs hs)) (hi : HIn w w.heap.size hs) (hcl : n ≤ hc) (hn : n ≤ 1048576) (ht : HShort 1048576 hs) :
  Calls Tryz.prog 28 #[.agg #[.int .i64 ge, .int .i64 ep, .int .i64 po, .int .i64 se, .int .i64 la, .string lab, .slice HA n hc]] w fun e w' => (∃ y : AV, e = .returned y.v ∧ y.d = ⟨ge, ep, po, se, la, lab, hds hs⟩ ∧ y.Own w' w.heap.size ∧ Parted y.hs) ∧ Below w.heap.size w w' := by
 have P0 := (sev_new w (.int .i64 ge) (.int .i64 ep) (.int .i64 po) (.int .i64 se) (.int .i64 la) (.string lab) (.slice none 0 0) 26).keep (bl (w.alloc (.cells #[.int .i64 ge, .int .i64 ep, .int .i64 po, .int .i64 se, .int .i64 la, .string lab, .slice none 0 0] 26)) (.cells #[.int .i64 0, .int .i64 0, .int .i64 0, .int .i64 0, .int .i64 0, .string ⟨#[]⟩, .slice none 0 0] 26)) (by simp)
 have Q0 := sev_new (w.alloc (.cells #[.int .i64 ge, .int .i64 ep, .int .i64 po, .int .i64 se, .int .i64 la, .string lab, .slice none 0 0] 26)) (.int .i64 0) (.int .i64 0) (.int .i64 0) (.int .i64 0) (.int .i64 0) (.string ⟨#[]⟩) (.slice none 0 0) 26
 have B0 := kal (bl w (.cells #[.int .i64 ge, .int .i64 ep, .int .i64 po, .int .i64 se, .int .i64 la, .string lab, .slice none 0 0] 26)) (.cells #[.int .i64 0, .int .i64 0, .int .i64 0, .int .i64 0, .int .i64 0, .string ⟨#[]⟩, .slice none 0 0] 26)
 have L0 : (w.alloc (.cells #[.int .i64 ge, .int .i64 ep, .int .i64 po, .int .i64 se, .int .i64 la, .string lab, .slice none 0 0] 26)).heap.size = w.heap.size + 1 := by simp
 have L1 : ((w.alloc (.cells #[.int .i64 ge, .int .i64 ep, .int .i64 po, .int .i64 se, .int .i64 la, .string lab, .slice none 0 0] 26)).alloc (.cells #[.int .i64 0, .int .i64 0, .int .i64 0, .int .i64 0, .int .i64 0, .string ⟨#[]⟩, .slice none 0 0] 26)).heap.size = w.heap.size + 2 := by simp
 rw [L0] at Q0
 clear L0
 go_enter Tryz.func28, Tryz.ntmps28
 go_wp2_with fail
 generalize (w.alloc (.cells #[.int .i64 ge, .int .i64 ep, .int .i64 po, .int .i64 se, .int .i64 la, .string lab, .slice none 0 0] 26)).alloc (.cells #[.int .i64 0, .int .i64 0, .int .i64 0, .int .i64 0, .int .i64 0, .string ⟨#[]⟩, .slice none 0 0] 26) = w2 at *
 go_loopw [4] (fun i w' => ∃ (k : Nat) (rs : List HomR) (v : Value), k ≤ n ∧ i = .int .i64 k ∧ hds rs = (hds hs).take k ∧ OwnH w' (w.heap.size + 2) v rs ∧ Parted rs ∧ Sev w' w.heap.size (.int .i64 ge) (.int .i64 ep) (.int .i64 po) (.int .i64 se) (.int .i64 la) (.string lab) v ∧ Sev w' (w.heap.size + 1) (.int .i64 0) (.int .i64 0) (.int .i64 0) (.int .i64 0) (.int .i64 0) (.string ⟨#[]⟩) (.slice none 0 0) ∧ Below w.heap.size w w' ∧ w.heap.size + 2 ≤ w'.heap.size) (fun i _ => n - (RowKit.intOf i).toNat)
 case atStart => exact ⟨0, [], .slice none 0 0, by omega, rfl, rfl, ownH_nil _ _, parted_nil, P0, Q0, B0, by omega⟩
 case round =>
  clear P0 Q0 B0 L1 w2
  rename_i wr
  obtain ⟨k, rs, v, hk, rfl, hrs, hown, hpt, P3, Q3, hbr, hl3⟩ := hrel
  by_cases hlt : k < n
  ·obtain ⟨b1, off, u, rfl, hb1, r0, r1, r2, m1, hu, -, e1⟩ := home_at (hh.below hbr) (hi.below hbr) (show k < hs.length by omega)
   have m5 := ht _ hu
   have i1 : (k : Int) < (n : Int) := by omega
   have hl2 : w.heap.size + 2 ≤ wr.heap.size := hl3
   have hlk : rs.length = k := by
    have := congrArg List.length hrs
    rw [hds_length, List.length_take, hds_length] at this
    omega
   have HL : Hid (hds rs ++ [u.d] = (hds hs).take (k + 1)) := by
    show _ = _
    rw [take_next e1, hrs]
   have cO : ∀ W, Below (w.heap.size + 2) wr W → Calls Tryz.prog 45 #[.slice u.A u.ps.length u.c] W fun e w' => (∃ v, e = .returned v ∧ OwnV w' W.heap.size 3 v (ints u.ps)) ∧ Below W.heap.size W w' := fun W hW => twinI_any _ _ _ _ _ _ rfl (m1.below (hW.mono (by omega))).1 m5
   have p0 := P3.c6
   have i2 : (0 : Int) ≤ (k : Int) := by omega
   have i3 : (n : Int) ≤ (hc : Int) := by omega
   clear m1 m5 hu ht hh hi e1 hrs hln
   go_wp2_with fail
   refine wp_region_tail (S := fun W => W.cell? ⟨w.heap.size, 6, none⟩ = some v ∧ W.cell? ⟨b1, off + k * 3, none⟩ = some (.slice u.A u.ps.length u.c) ∧ W.cell? ⟨b1, off + k * 3 + 1, none⟩ = some (.int .i64 u.nx) ∧ W.cell? ⟨b1, off + k * 3 + 2, none⟩ = some (.int .i64 u.rt) ∧ Below (w.heap.size + 2) wr W) 22 rfl (by kernel_rfl) (by kernel_rfl) ⟨p0, r0, r1, r2, below_dr (Below.refl _ _)⟩ (fun hS => ?_)
   simp only [List.take_succ_cons, List.take_zero]
   (refine wpAnyH_take (i := 0) (v := ?_) rfl (by kernel_rfl) (by kernel_rfl) (by kernel_rfl) (fun _ _ _ h => h) (Or.inl ⟨by rfl, ?_⟩) (by assumption) ?_; rotate_left; (focus (intro w hSw; (try dsimp only at hSw); go_split_ands; go_simp <;> with_reducible rfl)); simp only [List.getElem_toArray, List.getElem_cons_zero, Act.put, List.setIfInBounds_toArray, List.set_cons_zero, List.set_cons_succ])
   (refine wpAnyH_take (i := 1) (v := ?_) rfl (by kernel_rfl) (by kernel_rfl) (by kernel_rfl) (fun _ _ _ h => h) (Or.inl ⟨by rfl, ?_⟩) (by assumption) ?_; rotate_left; (focus (intro w hSw; (try dsimp only at hSw); go_split_ands; go_simp <;> with_reducible rfl)); simp only [List.getElem_toArray, List.getElem_cons_zero, List.getElem_cons_succ, Act.put, List.setIfInBounds_toArray, List.set_cons_zero, List.set_cons_succ])
   (refine wpAnyH_take (i := 2) (v := ?_) rfl (by kernel_rfl) (by kernel_rfl) (by kernel_rfl) (fun _ _ _ h => h) (Or.inl ⟨by rfl, ?_⟩) (by assumption) ?_; rotate_left; (focus (intro w hSw; (try dsimp only at hSw); go_split_ands; go_simp <;> with_reducible rfl)); simp only [List.getElem_toArray, List.getElem_cons_zero, List.getElem_cons_succ, Act.put, List.setIfInBounds_toArray, List.set_cons_zero, List.set_cons_succ])
   (refine wpAnyH_take (i := 3) (v := ?_) rfl (by kernel_rfl) (by kernel_rfl) (by kernel_rfl) (fun _ _ _ h => h) (Or.inl ⟨by rfl, ?_⟩) (by assumption) ?_; rotate_left; (focus (intro w hSw; (try dsimp only at hSw); go_split_ands; go_simp <;> with_reducible rfl)); simp only [List.getElem_toArray, List.getElem_cons_zero, List.getElem_cons_succ, Act.put, List.setIfInBounds_toArray, List.set_cons_zero, List.set_cons_succ])
   (refine wpAnyH_take (i := 4) (v := ?_) rfl (by kernel_rfl) (by kernel_rfl) (by kernel_rfl) (fun _ _ _ h => h) (Or.inl ⟨by rfl, ?_⟩) (by assumption) ?_; rotate_left; (focus (intro w hSw; (try dsimp only at hSw); go_split_ands; go_simp <;> with_reducible rfl)); simp only [List.getElem_toArray, List.getElem_cons_zero, List.getElem_cons_succ, Act.put, List.setIfInBounds_toArray, List.set_cons_zero, List.set_cons_succ])
   (refine wpAnyH_take (i := 5) (v := ?_) rfl (by kernel_rfl) (by kernel_rfl) (by kernel_rfl) (fun _ _ _ h => h) (Or.inl ⟨by rfl, ?_⟩) (by assumption) ?_; rotate_left; (focus (intro w hSw; (try dsimp only at hSw); go_split_ands; go_simp <;> with_reducible rfl)); simp only [List.getElem_toArray, List.getElem_cons_zero, List.getElem_cons_succ, Act.put, List.setIfInBounds_toArray, List.set_cons_zero, List.set_cons_succ])
   (refine wpAnyH_take (i := 6) (v := ?_) rfl (by kernel_rfl) (by kernel_rfl) (by kernel_rfl) (fun _ _ _ h => h) (Or.inl ⟨by rfl, ?_⟩) (by assumption) ?_; rotate_left; (focus (intro w hSw; (try dsimp only at hSw); go_split_ands; go_simp <;> with_reducible rfl)); simp only [List.getElem_toArray, List.getElem_cons_zero, List.getElem_cons_succ, Act.put, List.setIfInBounds_toArray, List.set_cons_zero, List.set_cons_succ])
   (refine wpAnyH_take (i := 8) (v := ?_) rfl (by kernel_rfl) (by kernel_rfl) (by kernel_rfl) (fun _ _ _ h => h) (Or.inl ⟨by rfl, ?_⟩) (by assumption) ?_; rotate_left; (focus (intro w hSw; (try dsimp only at hSw); go_split_ands; go_simp <;> with_reducible rfl)); simp only [List.getElem_toArray, List.getElem_cons_zero, List.getElem_cons_succ, Act.put, List.setIfInBounds_toArray, List.set_cons_zero, List.set_cons_succ])
   (refine wpAnyH_take (i := 9) (v := ?_) rfl (by kernel_rfl) (by kernel_rfl) (by kernel_rfl) (fun _ _ _ h => h) (Or.inl ⟨by rfl, ?_⟩) (by assumption) ?_; rotate_left; (focus (intro w hSw; (try dsimp only at hSw); go_split_ands; go_simp <;> with_reducible rfl)); simp only [List.getElem_toArray, List.getElem_cons_zero, List.getElem_cons_succ, Act.put, List.setIfInBounds_toArray, List.set_cons_zero, List.set_cons_succ])
   (refine wpAnyH_take (i := 10) (v := ?_) rfl (by kernel_rfl) (by kernel_rfl) (by kernel_rfl) (fun _ _ _ h => h) (Or.inl ⟨by rfl, ?_⟩) (by assumption) ?_; rotate_left; (focus (intro w hSw; (try dsimp only at hSw); go_split_ands; go_simp <;> with_reducible rfl)); simp only [List.getElem_toArray, List.getElem_cons_zero, List.getElem_cons_succ, Act.put, List.setIfInBounds_toArray, List.set_cons_zero, List.set_cons_succ])
   (refine wpAnyH_take (i := 11) (v := ?_) rfl (by kernel_rfl) (by kernel_rfl) (by kernel_rfl) (fun _ _ _ h => h) (Or.inl ⟨by rfl, ?_⟩) (by assumption) ?_; rotate_left; (focus (intro w hSw; (try dsimp only at hSw); go_split_ands; go_simp <;> with_reducible rfl)); simp only [List.getElem_toArray, List.getElem_cons_zero, List.getElem_cons_succ, Act.put, List.setIfInBounds_toArray, List.set_cons_zero, List.set_cons_succ])
   (refine wpAnyH_take (i := 12) (v := ?_) rfl (by kernel_rfl) (by kernel_rfl) (by kernel_rfl) (fun _ _ _ h => h) (Or.inl ⟨by rfl, ?_⟩) (by assumption) ?_; rotate_left; (focus (intro w hSw; (try dsimp only at hSw); go_split_ands; go_simp <;> with_reducible rfl)); simp only [List.getElem_toArray, List.getElem_cons_zero, List.getElem_cons_succ, Act.put, List.setIfInBounds_toArray, List.set_cons_zero, List.set_cons_succ])
   (refine wpAnyH_take (i := 13) (v := ?_) rfl (by kernel_rfl) (by kernel_rfl) (by kernel_rfl) (fun _ _ _ h => h) (Or.inl ⟨by rfl, ?_⟩) (by assumption) ?_; rotate_left; (focus (intro w hSw; (try dsimp only at hSw); go_split_ands; go_simp <;> with_reducible rfl)); simp only [List.getElem_toArray, List.getElem_cons_zero, List.getElem_cons_succ, Act.put, List.setIfInBounds_toArray, List.set_cons_zero, List.set_cons_succ])
   (refine wpAnyH_take (i := 14) (v := ?_) rfl (by kernel_rfl) (by kernel_rfl) (by kernel_rfl) (fun _ _ _ h => h) (Or.inl ⟨by rfl, ?_⟩) (by assumption) ?_; rotate_left; (focus (intro w hSw; (try dsimp only at hSw); go_split_ands; go_simp <;> with_reducible rfl)); simp only [List.getElem_toArray, List.getElem_cons_zero, List.getElem_cons_succ, Act.put, List.setIfInBounds_toArray, List.set_cons_zero, List.set_cons_succ])
   (refine wpAnyH_take (i := 15) (v := ?_) rfl (by kernel_rfl) (by kernel_rfl) (by kernel_rfl) (fun _ _ _ h => h) (Or.inl ⟨by rfl, ?_⟩) (by assumption) ?_; rotate_left; (focus (intro w hSw; (try dsimp only at hSw); go_split_ands; go_simp <;> with_reducible rfl)); simp only [List.getElem_toArray, List.getElem_cons_zero, List.getElem_cons_succ, Act.put, List.setIfInBounds_toArray, List.set_cons_zero, List.set_cons_succ])
   (refine wpAnyH_take (i := 16) (v := ?_) rfl (by kernel_rfl) (by kernel_rfl) (by kernel_rfl) (fun _ _ _ h => h) (Or.inl ⟨by rfl, ?_⟩) (by assumption) ?_; rotate_left; (focus (intro w hSw; (try dsimp only at hSw); go_split_ands; go_simp <;> with_reducible rfl)); simp only [List.getElem_toArray, List.getElem_cons_zero, List.getElem_cons_succ, Act.put, List.setIfInBounds_toArray, List.set_cons_zero, List.set_cons_succ])
   (refine wpAnyH_take (i := 17) (v := ?_) rfl (by kernel_rfl) (by kernel_rfl) (by kernel_rfl) (fun _ _ _ h => h) (Or.inl ⟨by rfl, ?_⟩) (by assumption) ?_; rotate_left; (focus (intro w hSw; (try dsimp only at hSw); go_split_ands; go_simp <;> with_reducible rfl)); simp only [List.getElem_toArray, List.getElem_cons_zero, List.getElem_cons_succ, Act.put, List.setIfInBounds_toArray, List.set_cons_zero, List.set_cons_succ])
   refine wpAnyH_ready (rs := [7]) (by kernel_rfl) (by simp) ?_
   refine AllReadyH.cons rfl (fun K hK => ?_) AllReadyH.nil
   go_simp
   (with_reducible refine (cO _ (below_dr (Below.refl _ _))).mono ?_)
   rintro e wo ⟨⟨vo, rfl, oo⟩, hbo⟩
   obtain ⟨Xo, co, rfl, -, -, -, -⟩ := id oo.form
   have hil := ints_length u.ps
   rw [hil] at oo
   simp only [hil] at hK ⊢
   clear hil
   have so : Below (w.heap.size + 2) wr wo := bm (below_dr (Below.refl _ _)) hl2 hbo
   refine hK.out _ _ ⟨ks so (by omega) p0, ks so (by omega) r0, ks so (by omega) r1, ks so (by omega) r2, so⟩ (fun hS => ?_)
   clear hK K
   (refine wpAnyH_take (i := 18) (v := ?_) rfl (by kernel_rfl) (by kernel_rfl) (by kernel_rfl) (fun _ _ _ h => h) (Or.inl ⟨by rfl, ?_⟩) (by assumption) ?_; rotate_left; (focus (intro w hSw; (try dsimp only at hSw); go_split_ands; go_simp <;> with_reducible rfl)); simp only [List.getElem_toArray, List.getElem_cons_zero, List.getElem_cons_succ, Act.put, List.setIfInBounds_toArray, List.set_cons_zero, List.set_cons_succ])
   refine wpAnyH_ready (rs := [19]) (by kernel_rfl) (by simp) ?_
   refine AllReadyH.cons rfl (fun K hK => ?_) AllReadyH.nil
   go_simp
   have to : Below wr.heap.size wr wo := bt (below_dr (Below.refl _ _)) hbo
   have sa : Below (w.heap.size + 2) wr (wo.alloc (.cells #[.slice Xo u.ps.length co, .int .i64 u.nx, .int .i64 u.rt] 69)) := ka so hl2 _
   have ta : Below wr.heap.size wr (wo.alloc (.cells #[.slice Xo u.ps.length co, .int .i64 u.nx, .int .i64 u.rt] 69)) := kal to _
   refine hK.out _ _ ⟨ks sa (by omega) p0, ks sa (by omega) r0, ks sa (by omega) r1, ks sa (by omega) r2, sa⟩ (fun hS => ?_)
   clear hK K
   refine wpAnyH_ready (rs := [20]) (by kernel_rfl) (by simp) ?_
   refine AllReadyH.cons rfl (fun K hK => ?_) AllReadyH.nil
   have ow := hown.below ta
   have la : wr.heap.size ≤ (wo.alloc (.cells #[.slice Xo u.ps.length co, .int .i64 u.nx, .int .i64 u.rt] 69)).heap.size := ta.size
   have oO := OwnV.below oo (bl wo (.cells #[.slice Xo u.ps.length co, .int .i64 u.nx, .int .i64 u.rt] 69))
   have src := src_home (P := Tryz.prog) (heap_alloc_new wo (.cells #[.slice Xo u.ps.length co, .int .i64 u.nx, .int .i64 u.rt] 69)) Tryz.underlying24 (by simp [Value.oneCell'])
   generalize wo.alloc (.cells #[.slice Xo u.ps.length co, .int .i64 u.nx, .int .i64 u.rt] 69) = wa at *
   refine step_row wa (by rfl) _ _ _ _ (by rfl) (w.heap.size + 2) 3 40 69 (.agg #[.slice none 0 0, .int .i64 0, .int .i64 0]) Tryz.underlying24 h_info (by rfl) v rs.length (hvs rs) (by rfl) ow.1 _ 1 _ (by rfl) src (by rw [hlk]; unfold maxLen; omega) (by omega) (by omega) ?_
   intro v3 w3 h3 hg3
   have hb3 : Below (w.heap.size + 2) wa w3 := (Below.refl _ _).mono (by omega) |>.grown hg3 (by omega) (fun q hq => (World.ownsRow.lt ow.1 q hq).1)
   have bw3 : Below (w.heap.size + 2) wr w3 := (ta.mono hl3).trans hb3
   refine hK.out _ _ ⟨ks bw3 (by omega) p0, ks bw3 (by omega) r0, ks bw3 (by omega) r1, ks bw3 (by omega) r2, bw3⟩ (fun hS => ?_)
   clear hK K
   simp only [List.getElem_toArray, List.getElem_cons_zero, List.getElem_cons_succ, Act.put, List.setIfInBounds_toArray, List.set_cons_zero, List.set_cons_succ]
   (refine wpAnyH_take (i := 21) (v := ?_) rfl (by kernel_rfl) (by kernel_rfl) (by kernel_rfl) (fun _ _ _ h => h) (Or.inl ⟨by rfl, ?_⟩) (by assumption) ?_; rotate_left; (focus (intro w hSw; (try dsimp only at hSw); go_split_ands; go_simp <;> with_reducible rfl)); simp only [List.getElem_toArray, List.getElem_cons_zero, List.getElem_cons_succ, Act.put, List.setIfInBounds_toArray, List.set_cons_zero, List.set_cons_succ])
   refine wpAnyH_done (by kernel_rfl) ?_ _
   have P4 := P3.keep bw3 (by omega)
   have Q4 := Q3.keep bw3 (by omega)
   have c6 := P4.c6
   have f6 := P4.f6
   obtain ⟨A3, c3, rfl, -, -, -⟩ := row_form h3
   simp only [tailQ]
   go_simp
   have oO2 := oO.less (base' := w.heap.size + 2) (by simp; omega)
   have hfin : OwnH (w3.setCell ⟨w.heap.size, 6, none⟩ (.slice A3 (k + 1 : Nat) c3)) (w.heap.size + 2) (.slice A3 (k + 1 : Nat) c3) (rs ++ [⟨Xo, co, u.ps, u.nx, u.rt⟩]) := by
    rw [← hlk]
    exact OwnH.cell_set (ow.more (r := ⟨Xo, co, u.ps, u.nx, u.rt⟩) hg3 oO2 h3) (by omega) _
   have hbf : Below w.heap.size w (w3.setCell ⟨w.heap.size, 6, none⟩ (.slice A3 (k + 1 : Nat) c3)) := (hbr.trans (bw3.mono (by omega))).setCell (Nat.le_refl _) _
   have hsz := bw3.size
   have hpt2 := Lib.hid (Parted.more (r := ⟨Xo, co, u.ps, u.nx, u.rt⟩) hpt (OwnH.lt hown) (fun a ha => (own_ge oo a ha).1))
   clear hpt
   go_wp2
   go_roundw
   case rel => exact ⟨k + 1, _, _, by omega, by go_num, by show (rs ++ [_]).map HomR.d = _; rw [List.map_append]; exact HL.out, hfin, hpt2.out, P4.set6 _, Q4.apart (by omega) _, hbf, by simp; omega⟩
   case measure => simp [RowKit.intOf]; omega
  ·have hrs2 : hds rs = hds hs := by rw [hrs, List.take_of_length_le (by rw [hds_length]; omega)]
   have HR := Lib.hid hrs2
   obtain ⟨c0, c1, c2, c3, c4, c5, c6, -, -, -, -, -, -, -⟩ := id P3
   obtain ⟨z0, z1, z2, z3, z4, z5, z6, f0, f1, f2, f3, f4, f5, f6⟩ := id Q3
   clear hrs hrs2 hh hi ht
   obtain ⟨A1, d1, rfl, n1, n2, s1⟩ := row_form hown.1
   go_wp2_with fail
   have k7 := (((((((Q3.set0 (.int .i64 ge)).set1 (.int .i64 ep)).set2 (.int .i64 po)).set3 (.int .i64 se)).set4 (.int .i64 la)).set5 (.string lab)).set6 (.slice A1 rs.length d1))
   have hg : w.heap.size + 1 < w.heap.size + 2 := by omega
   have h7 := (((((((hown.cell_set (o := 0) hg (.int .i64 ge)).cell_set (o := 1) hg (.int .i64 ep)).cell_set (o := 2) hg (.int .i64 po)).cell_set (o := 3) hg (.int .i64 se)).cell_set (o := 4) hg (.int .i64 la)).cell_set (o := 5) hg (.string lab)).cell_set (o := 6) hg (.slice A1 rs.length d1))
   have hl : w.heap.size ≤ w.heap.size + 1 := by omega
   refine bodyPost_ret (v := .agg #[.int .i64 ge, .int .i64 ep, .int .i64 po, .int .i64 se, .int .i64 la, .string lab, .slice A1 rs.length d1]) (by simp [results, Tryz.results28, go_sem, k7.c0, k7.c1, k7.c2, k7.c3, k7.c4, k7.c5, k7.c6]) rfl ⟨⟨⟨ge, ep, po, se, la, lab, A1, d1, rs⟩, rfl, ?_, OwnH.less h7 (by omega), hpt⟩, (((((((hbr.setCell hl _).setCell hl _).setCell hl _).setCell hl _).setCell hl _).setCell hl _).setCell hl _)⟩
   show (⟨ge, ep, po, se, la, lab, hds rs⟩ : Anc) = _
   rw [HR.out]
theorem twin_parted (x : AV) (w : World) (hx : x.In w w.heap.size) (hn : x.hs.length ≤ 1048576) (hs : HShort 1048576 x.hs) :
  Calls Tryz.prog 28 #[x.v] w fun e w' => (∃ y : AV, e = .returned y.v ∧ y.d = x.d ∧ y.Own w' w.heap.size ∧ Parted y.hs) ∧ Below w.heap.size w w' :=
 twin_go x.gen x.ep x.pos x.seq x.last x.lab x.HA x.hs.length x.hc x.hs w rfl hx.hh hx.hi hx.hl.1 hn hs
theorem twin_anchor (x : AV) (w : World) (hx : x.In w w.heap.size) (hn : x.hs.length ≤ 1048576) (hs : HShort 1048576 x.hs) :
  Calls Tryz.prog 28 #[x.v] w fun e w' => (∃ y : AV, e = .returned y.v ∧ y.d = x.d ∧ y.Own w' w.heap.size) ∧ Below w.heap.size w w' :=
 (twin_parted x w hx hn hs).mono fun _ _ ⟨⟨y, h1, h2, h3, _⟩, hb⟩ => ⟨⟨y, h1, h2, h3⟩, hb⟩
end Go.Proofs.YtbfdpibjicjagaaGreatDoor.anc
namespace Go.Proofs.YtbfdpibjicjagaaGreatDoor.anc
open Go.RowKit Go.Lib
theorem flat_set {α β : Type} (f : α → List β) (k : Nat) (hk : ∀ x, (f x).length = k) : ∀ (l : List α) (j i : Nat) (x : α) (v : β), i < k → (∀ y, l[j]? = some y → f x = (f y).set i v) → (l.set j x).flatMap f = (l.flatMap f).set (j * k + i) v
 | [], j, i, x, v, _, _ => by simp
 | y :: l, 0, i, x, v, hi, h => by
  rw [List.set_cons_zero, List.flatMap_cons, List.flatMap_cons, h y rfl, Nat.zero_mul, Nat.zero_add, List.set_append_left _ _ (by rw [hk]; exact hi)]
 | y :: l, j + 1, i, x, v, hi, h => by
  rw [List.set_cons_succ, List.flatMap_cons, List.flatMap_cons, List.set_append_right _ _ (by rw [hk, Nat.succ_mul]; omega), hk, show (j + 1) * k + i - k = j * k + i by rw [Nat.succ_mul]; omega, flat_set f k hk l j i x v hi (fun z hz => h z hz)]
theorem Parted.apart {rs : List HomR} (h : Parted rs) {i j : Nat} {r q : HomR} (hi : rs[i]? = some r) (hj : rs[j]? = some q) (hne : i ≠ j) : ∀ a b, r.A = some a → q.A = some b → a.block ≠ b.block := by
 obtain ⟨hi', rfl⟩ := List.getElem?_eq_some_iff.1 hi
 obtain ⟨hj', rfl⟩ := List.getElem?_eq_some_iff.1 hj
 have hp := List.pairwise_iff_getElem.1 h
 intro a b ha hb
 rcases Nat.lt_or_ge i j with k | k
 ·exact hp i j hi' hj' k a b ha hb
 ·exact fun e => hp j i hj' hi' (by omega) b a hb ha e.symm
theorem Parted.set {rs : List HomR} (h : Parted rs) {j : Nat} {r r' : HomR} (hj : rs[j]? = some r) (e : r'.A = r.A) : Parted (rs.set j r') := by
 obtain ⟨hj', rfl⟩ := List.getElem?_eq_some_iff.1 hj
 refine List.pairwise_iff_getElem.2 fun i k hi hk hik a b ha hb => ?_
 rw [List.length_set] at hi hk
 have hA : ∀ (m : Nat) (hm : m < rs.length), ((rs.set j r')[m]'(by rw [List.length_set]; exact hm)).A = rs[m].A := fun m hm => by
  rw [List.getElem_set]
  split
  ·rename_i hh
   subst hh
   exact e
  ·rfl
 rw [hA i hi] at ha
 rw [hA k hk] at hb
 exact List.pairwise_iff_getElem.1 h i k hi hk hik a b ha hb
section
variable {w : World} {base j : Nat} {y : AV} {r : HomR}
theorem AV.Own.row (h : y.Own w base) (hj : y.hs[j]? = some r) (hl : 0 < r.ps.length) : ∃ g, r.A = some ⟨g, 0, none⟩ ∧ OwnV w base 3 (.slice (some ⟨g, 0, none⟩) r.ps.length r.c) (ints r.ps) ∧ g < w.heap.size ∧ base ≤ g := by
 have hm := List.mem_of_getElem? hj
 have ho := h.2 r hm
 obtain ⟨g, c, hv, -, -, h1, h2⟩ := ho.at (by rw [ints_length]; exact hl)
 simp only [Value.slice.injEq] at hv
 obtain ⟨hA, -, -⟩ := hv
 exact ⟨g, hA, by rw [← hA]; exact ho, h2, h1⟩
end
end Go.Proofs.YtbfdpibjicjagaaGreatDoor.anc
