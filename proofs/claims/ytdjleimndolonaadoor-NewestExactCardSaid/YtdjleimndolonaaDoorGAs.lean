/-
  anchor.homeOf: a home out of its numbers. Conditions: rows shorter than 2^20.
  anchor.parse: the anchor that bytes begin with. Conditions: fewer than 2^32 bytes; what label.Read answers is given.
  anchor.parse: the anchor that bytes begin with, where its head and its label are there. Conditions: as before.
  anchor.Read: the anchor of which bytes are the encoding. Conditions: fewer than 2^32 bytes; what label.Read and label.Check answer is given.
-/
import Derived.Test.YtdjleimndolonaaDoorGAe
import Derived.Test.YtdjleimndolonaaDoorGAi
namespace Go.Proofs.YtdjleimndolonaaDoor.anc
open Go.RowKit Go.Lib
open Go.Proofs.YtdjleimndolonaaDoor.gmt (Ok five_new check_ok check_no)

/-- What homeOf answers. -/
def HomeA (base D : Nat) (ps : List Int) (nx rt : Int) (e : Ending) (w' : World) : Prop := ∃ A c, e = .returned (.agg #[.slice A (D + 1) c, .int .i64 nx, .int .i64 rt]) ∧ OwnV w' base 3 (.slice A (D + 1) c) (ints ps)
set_option maxRecDepth 100000 in
set_option maxHeartbeats 4000000 in
theorem homeOf_at (z s l a : Int) (D : Nat) (A : Option Addr) (c : Nat) (ps : List Int) (nx rt : Int) (w : World) (ho : Ok z D s l a) (hps : ps.length = D + 1) (hA : SlV w w.heap.size A (ints (ps ++ [nx, rt]))) (hc : D + 3 ≤ c) :
    Calls Tryd.prog 73 #[.agg #[.int .i64 z, .int .i64 D, .int .i64 s, .int .i64 l, .int .i64 a], .slice A (D + 3) c] w fun e w' => HomeA w.heap.size D ps nx rt e w' ∧ Below w.heap.size w w' := by
  have cP := fun W => placeCount_at z D s l a W ho
  obtain ⟨-, o2, -⟩ := ho
  have GG := (g5_new w z D s l a).keep (bl (w.alloc (.cells #[.int .i64 z, .int .i64 D, .int .i64 s, .int .i64 l, .int .i64 a] 23)) (.cells #[.slice none 0 0, .int .i64 0, .int .i64 0] 62)) (by simp)
  have Q0 := tri_new (w.alloc (.cells #[.int .i64 z, .int .i64 D, .int .i64 s, .int .i64 l, .int .i64 a] 23)) (.slice none 0 0) (.int .i64 0) (.int .i64 0) 62
  have hb0 := kal (bl w (.cells #[.int .i64 z, .int .i64 D, .int .i64 s, .int .i64 l, .int .i64 a] 23)) (.cells #[.slice none 0 0, .int .i64 0, .int .i64 0] 62)
  rw [show (w.alloc (.cells #[.int .i64 z, .int .i64 D, .int .i64 s, .int .i64 l, .int .i64 a] 23)).heap.size = w.heap.size + 1 by simp] at Q0
  have l0 : w.heap.size + 2 ≤ ((w.alloc (.cells #[.int .i64 z, .int .i64 D, .int .i64 s, .int .i64 l, .int .i64 a] 23)).alloc (.cells #[.slice none 0 0, .int .i64 0, .int .i64 0] 62)).heap.size := by simp
  obtain ⟨b, off, rfl, hbb, hcc⟩ := hA (by rw [ints_length, List.length_append]; simp)
  have hlen : (ints (ps ++ [nx, rt])).length = D + 3 := by rw [ints_length, List.length_append, hps]; rfl
  have r1 := hcc (D + 1) (by omega)
  have r2 := hcc (D + 2) (by omega)
  rw [ints_get] at r1 r2
  have e1 : (ps ++ [nx, rt])[D + 1]'(by rw [List.length_append, hps]; simp) = nx := by rw [List.getElem_append_right (by omega)]; simp [hps]
  have e2 : (ps ++ [nx, rt])[D + 2]'(by rw [List.length_append, hps]; simp) = rt := by rw [List.getElem_append_right (by omega)]; simp [hps]
  rw [e1] at r1
  rw [e2] at r2
  have hT : SlV w w.heap.size (some ⟨b, off, none⟩) (ints ps) := by
    have := hA.take (D + 1)
    unfold ints at this ⊢
    rwa [← List.map_take, List.take_left' hps] at this
  have HT := Lib.hid hT
  have HPS := Lib.hid hps
  clear e1 e2 hcc hlen hT hA hps
  go_enter Tryd.func73, Tryd.ntmps73
  go_upto_region 1 with fail
  generalize (w.alloc (.cells #[.int .i64 z, .int .i64 D, .int .i64 s, .int .i64 l, .int .i64 a] 23)).alloc (.cells #[.slice none 0 0, .int .i64 0, .int .i64 0] 62) = w1 at *
  obtain ⟨g0, g1, g2, g3, g4⟩ := id GG
  go_upto_region 2 with (go_at_call 80; (with_reducible refine (cP _).mono ?_); rintro e w2 ⟨rfl, hb2⟩)
  have Q2 := Q0.keep hb2 (by omega)
  have l2 := hb2.size
  have B2 := bt hb0 hb2
  replace r1 := kst B2 hbb r1
  replace r2 := kst B2 hbb r2
  have l02 : w.heap.size + 2 ≤ w2.heap.size := by omega
  clear g0 g1 g2 g3 g4 GG Q0 hb0 hb2 cP l0 l2 w1
  have i1 : (0 : Int) ≤ (D : Int) + 1 := by omega
  have i2 : (D : Int) + 1 ≤ (c : Int) := by omega
  have i3 : (D : Int) + 1 < ((D + 3 : Nat) : Int) := by omega
  have i3' : (D : Int) + 1 < (D : Int) + 3 := by omega
  have i5' : (D : Int) + 1 + 1 < (D : Int) + 3 := by omega
  have i4 : (0 : Int) ≤ (D : Int) + 1 + 1 := by omega
  have i5 : (D : Int) + 1 + 1 < ((D + 3 : Nat) : Int) := by omega
  have i6 : ((D : Int) + 1).toNat = D + 1 := by omega
  have i7 : ((D : Int) + 1 + 1).toNat = D + 2 := by omega
  have i8 : IntKind.i64.wrap ((D : Int) + 1 + 1) = (D : Int) + 1 + 1 := IntWalk.i64_in _ (by omega)
  refine wp_region_tail (S := fun W => W.cell? ⟨b, off + (D + 1), none⟩ = some (.int .i64 nx) ∧ W.cell? ⟨b, off + (D + 2), none⟩ = some (.int .i64 rt) ∧ Below w2.heap.size w2 W) 14 rfl (by kernel_rfl) (by kernel_rfl) ⟨r1, r2, below_dr (Below.refl _ _)⟩ (fun hS => ?_)
  simp only [List.take_succ_cons, List.take_zero]
  (refine wpAnyH_take (i := 0) (v := ?_) rfl (by kernel_rfl) (by kernel_rfl) (by kernel_rfl) (fun _ _ _ h => h) (Or.inl ⟨by rfl, ?_⟩) (by assumption) ?_; rotate_left; (focus (intro w hSw; (try dsimp only at hSw); go_split_ands; go_simp <;> with_reducible rfl)); simp only [List.getElem_toArray, List.getElem_cons_zero, Act.put, List.setIfInBounds_toArray, List.set_cons_zero, List.set_cons_succ])
  (refine wpAnyH_take (i := 1) (v := ?_) rfl (by kernel_rfl) (by kernel_rfl) (by kernel_rfl) (fun _ _ _ h => h) (Or.inl ⟨by rfl, ?_⟩) (by assumption) ?_; rotate_left; (focus (intro w hSw; (try dsimp only at hSw); go_split_ands; go_simp <;> with_reducible rfl)); simp only [List.getElem_toArray, List.getElem_cons_zero, List.getElem_cons_succ, Act.put, List.setIfInBounds_toArray, List.set_cons_zero, List.set_cons_succ])
  (refine wpAnyH_take (i := 2) (v := ?_) rfl (by kernel_rfl) (by kernel_rfl) (by kernel_rfl) (fun _ _ _ h => h) (Or.inl ⟨by rfl, ?_⟩) (by assumption) ?_; rotate_left; (focus (intro w hSw; (try dsimp only at hSw); go_split_ands; go_simp <;> with_reducible rfl)); simp only [List.getElem_toArray, List.getElem_cons_zero, List.getElem_cons_succ, Act.put, List.setIfInBounds_toArray, List.set_cons_zero, List.set_cons_succ])
  (refine wpAnyH_take (i := 4) (v := ?_) rfl (by kernel_rfl) (by kernel_rfl) (by kernel_rfl) (fun _ _ _ h => h) (Or.inl ⟨by rfl, ?_⟩) (by assumption) ?_; rotate_left; (focus (intro w hSw; (try dsimp only at hSw); go_split_ands; go_simp <;> with_reducible rfl)); simp only [List.getElem_toArray, List.getElem_cons_zero, List.getElem_cons_succ, Act.put, List.setIfInBounds_toArray, List.set_cons_zero, List.set_cons_succ])
  (refine wpAnyH_take (i := 5) (v := ?_) rfl (by kernel_rfl) (by kernel_rfl) (by kernel_rfl) (fun _ _ _ h => h) (Or.inl ⟨by rfl, ?_⟩) (by assumption) ?_; rotate_left; (focus (intro w hSw; (try dsimp only at hSw); go_split_ands; go_simp <;> with_reducible rfl)); simp only [List.getElem_toArray, List.getElem_cons_zero, List.getElem_cons_succ, Act.put, List.setIfInBounds_toArray, List.set_cons_zero, List.set_cons_succ])
  (refine wpAnyH_take (i := 6) (v := ?_) rfl (by kernel_rfl) (by kernel_rfl) (by kernel_rfl) (fun _ _ _ h => h) (Or.inl ⟨by rfl, ?_⟩) (by assumption) ?_; rotate_left; (focus (intro w hSw; (try dsimp only at hSw); go_split_ands; go_simp <;> with_reducible rfl)); simp only [List.getElem_toArray, List.getElem_cons_zero, List.getElem_cons_succ, Act.put, List.setIfInBounds_toArray, List.set_cons_zero, List.set_cons_succ])
  (refine wpAnyH_take (i := 7) (v := ?_) rfl (by kernel_rfl) (by kernel_rfl) (by kernel_rfl) (fun _ _ _ h => h) (Or.inl ⟨by rfl, ?_⟩) (by assumption) ?_; rotate_left; (focus (intro w hSw; (try dsimp only at hSw); go_split_ands; go_simp <;> with_reducible rfl)); simp only [List.getElem_toArray, List.getElem_cons_zero, List.getElem_cons_succ, Act.put, List.setIfInBounds_toArray, List.set_cons_zero, List.set_cons_succ])
  (refine wpAnyH_take (i := 8) (v := ?_) rfl (by kernel_rfl) (by kernel_rfl) (by kernel_rfl) (fun _ _ _ h => h) (Or.inl ⟨by rfl, ?_⟩) (by assumption) ?_; rotate_left; (focus (intro w hSw; (try dsimp only at hSw); go_split_ands; go_simp <;> with_reducible rfl)); simp only [List.getElem_toArray, List.getElem_cons_zero, List.getElem_cons_succ, Act.put, List.setIfInBounds_toArray, List.set_cons_zero, List.set_cons_succ])
  (refine wpAnyH_take (i := 9) (v := ?_) rfl (by kernel_rfl) (by kernel_rfl) (by kernel_rfl) (fun _ _ _ h => h) (Or.inl ⟨by rfl, ?_⟩) (by assumption) ?_; rotate_left; (focus (intro w hSw; (try dsimp only at hSw); go_split_ands; go_simp <;> with_reducible rfl)); simp only [List.getElem_toArray, List.getElem_cons_zero, List.getElem_cons_succ, Act.put, List.setIfInBounds_toArray, List.set_cons_zero, List.set_cons_succ])
  (refine wpAnyH_take (i := 10) (v := ?_) rfl (by kernel_rfl) (by kernel_rfl) (by kernel_rfl) (fun _ _ _ h => h) (Or.inl ⟨by rfl, ?_⟩) (by assumption) ?_; rotate_left; (focus (intro w hSw; (try dsimp only at hSw); go_split_ands; go_simp <;> with_reducible rfl)); simp only [List.getElem_toArray, List.getElem_cons_zero, List.getElem_cons_succ, Act.put, List.setIfInBounds_toArray, List.set_cons_zero, List.set_cons_succ])
  (refine wpAnyH_take (i := 11) (v := ?_) rfl (by kernel_rfl) (by kernel_rfl) (by kernel_rfl) (fun _ _ _ h => h) (Or.inl ⟨by rfl, ?_⟩) (by assumption) ?_; rotate_left; (focus (intro w hSw; (try dsimp only at hSw); go_split_ands; go_simp <;> with_reducible rfl)); simp only [List.getElem_toArray, List.getElem_cons_zero, List.getElem_cons_succ, Act.put, List.setIfInBounds_toArray, List.set_cons_zero, List.set_cons_succ])
  (refine wpAnyH_take (i := 12) (v := ?_) rfl (by kernel_rfl) (by kernel_rfl) (by kernel_rfl) (fun _ _ _ h => h) (Or.inl ⟨by rfl, ?_⟩) (by assumption) ?_; rotate_left; (focus (intro w hSw; (try dsimp only at hSw); go_split_ands; go_simp <;> with_reducible rfl)); simp only [List.getElem_toArray, List.getElem_cons_zero, List.getElem_cons_succ, Act.put, List.setIfInBounds_toArray, List.set_cons_zero, List.set_cons_succ])
  refine wpAnyH_ready (rs := [3]) (by kernel_rfl) (by simp) ?_
  refine AllReadyH.cons rfl (fun K hK => ?_) AllReadyH.nil
  go_simp
  (with_reducible refine (cloneI_any _ c w.heap.size (D + 1) ps _ HPS.out (HT.out.below (below_dr B2)) (below_dr B2).size (by omega)).mono ?_)
  rintro e wo ⟨⟨Xo, co, rfl, -, oo⟩, hbo⟩
  have so : Below w2.heap.size w2 wo := bt (below_dr (Below.refl _ _)) hbo
  have lo := so.size
  refine hK.out _ _ ⟨kst so (by omega) r1, kst so (by omega) r2, so⟩ (fun hS => ?_)
  clear hK K
  (refine wpAnyH_take (i := 13) (v := ?_) rfl (by kernel_rfl) (by kernel_rfl) (by kernel_rfl) (fun _ _ _ h => h) (Or.inl ⟨by rfl, ?_⟩) (by assumption) ?_; rotate_left; (focus (intro w hSw; (try dsimp only at hSw); go_split_ands; go_simp <;> with_reducible rfl)); simp only [List.getElem_toArray, List.getElem_cons_zero, List.getElem_cons_succ, Act.put, List.setIfInBounds_toArray, List.set_cons_zero, List.set_cons_succ])
  refine wpAnyH_done (by kernel_rfl) ?_ _
  have Q3 := Q2.keep so (by omega)
  obtain ⟨z0, z1, z2, f0, f1, f2⟩ := id Q3
  simp only [tailQ]
  go_simp
  have k7 := ((Q3.set0 (.slice Xo (D + 1) co)).set1 (.int .i64 nx)).set2 (.int .i64 rt)
  have B3 := bt B2 so
  have h7 : ∀ (W : World) (o : Nat) (v : Value), OwnV W w2.heap.size 3 (.slice Xo (D + 1) co) (ints ps) → OwnV (W.setCell ⟨w.heap.size + 1, o, none⟩ v) w2.heap.size 3 (.slice Xo (D + 1) co) (ints ps) := fun W o v hW => ownsRow_setCell_other hW (fun hk => by have : w2.heap.size ≤ w.heap.size + 1 := (World.ownsRow.lt hW _ hk).1; omega) _
  have hl : w.heap.size ≤ w.heap.size + 1 := by omega
  have ho' := OwnV.less (h7 _ 2 (.int .i64 rt) (h7 _ 1 (.int .i64 nx) (h7 _ 0 (.slice Xo (D + 1) co) oo))) (show w.heap.size ≤ w2.heap.size by omega)
  clear z0 z1 z2 f0 f1 f2 r1 r2
  go_wp2_with fail
  exact bodyPost_ret (v := .agg #[.slice Xo (D + 1) co, .int .i64 nx, .int .i64 rt]) (by simp [results, Tryd.results73, go_sem, k7.c0, k7.c1, k7.c2]) rfl ⟨⟨Xo, co, rfl, ho'⟩, ((B3.setCell hl _).setCell hl _).setCell hl _⟩
end Go.Proofs.YtdjleimndolonaaDoor.anc

namespace Go.Proofs.YtdjleimndolonaaDoor.anc
open Go.RowKit Go.Lib
open Go.Proofs.YtdjleimndolonaaDoor.gmt (Ok five_new check_ok check_no)
open Go.Proofs.YtdjleimndolonaaDoor.pck (num unrow Unrowed unrow_any)
open Go.Proofs.YtdjleimndolonaaDoor.lbl (encL readL labE)

/-- What Unrow answers, by cases. -/
theorem unrow_no (n m : Nat) (A A' : Option Addr) (c c' : Nat) (l : List UInt8) (ss : List Int) (x : Int) (w : World) (hn : l.length = n) (hm : ss.length = m) (hl : m ≤ 1048576) (hc : n ≤ c) (hx : c ≤ maxLen) (hl2 : n ≤ 4294967296) (hr : unrow ss l = .error x) (hA : Sl w w.heap.size A l) (hA' : SlV w w.heap.size A' (ints ss)) :
    Calls Tryd.prog 71 #[.slice A n c, .slice A' m c'] w fun e w' => e = .returned (.tuple #[.slice none 0 0, .slice none 0 0, .int .i64 x]) ∧ Below w.heap.size w w' := by
  refine (unrow_any n m A A' c c' l ss w hn hm hl hc hx hl2 hA hA').mono fun e w' h => ⟨?_, h.2⟩
  have := h.1
  rw [hr] at this
  exact this
def UnrowQ (base p q : Nat) (ns : List Int) (r : List UInt8) (e : Ending) (w' : World) : Prop := ∃ A c X d, e = .returned (.tuple #[.slice A p c, .slice X q d, .int .i64 0]) ∧ p ≤ c ∧ c ≤ maxLen ∧ OwnV w' base 3 (.slice A p c) (ints ns) ∧ q ≤ d ∧ d ≤ maxLen ∧ Own w' base 5 (.slice X q d) r
theorem unrow_yes (n m p q : Nat) (A A' : Option Addr) (c c' : Nat) (l r : List UInt8) (ss ns : List Int) (w : World) (hn : l.length = n) (hm : ss.length = m) (hl : m ≤ 1048576) (hc : n ≤ c) (hx : c ≤ maxLen) (hl2 : n ≤ 4294967296) (hr : unrow ss l = .ok (ns, r)) (hp : ns.length = p) (hq : r.length = q) (hA : Sl w w.heap.size A l) (hA' : SlV w w.heap.size A' (ints ss)) :
    Calls Tryd.prog 71 #[.slice A n c, .slice A' m c'] w fun e w' => UnrowQ w.heap.size p q ns r e w' ∧ Below w.heap.size w w' := by
  refine (unrow_any n m A A' c c' l ss w hn hm hl hc hx hl2 hA hA').mono fun e w' h => ⟨?_, h.2⟩
  have := h.1
  rw [hr] at this
  obtain ⟨v, u, rfl, o1, o2⟩ := this
  obtain ⟨X1, c1, hv1, k1, k2, -, -⟩ := id o1.form
  obtain ⟨X2, c2, hv2, k3, k4, -, -⟩ := id o2.form
  subst hv1 hv2
  rw [ints_length, hp] at *
  rw [hq] at *
  exact ⟨X1, c1, X2, c2, rfl, k1, k2, o1, k3, k4, o2⟩

/-- What parse answers. -/
def ParsedA (base : Nat) (p : Option (Anc × List UInt8)) (e : Ending) (w' : World) : Prop :=
  match p with
  | none => e = .returned (.tuple #[noAV.v, .slice none 0 0, .int .i64 4])
  | some (x, r) => ∃ (y : AV) (X : Option Addr) (c : Nat), e = .returned (.tuple #[y.v, .slice X r.length c, .int .i64 0]) ∧ y.d = x ∧ y.Own w' base
theorem parsedA_none (base : Nat) (w : World) : ParsedA base none (.returned (.tuple #[.agg #[.int .i64 0, .int .i64 0, .int .i64 0, .int .i64 0, .int .i64 0, .string ⟨#[]⟩, .slice none 0 0], .slice none 0 0, .int .i64 4])) w := rfl
theorem parsedA_no {res : Option (Anc × List UInt8)} (h : res = none) (base : Nat) (w : World) : ParsedA base res (.returned (.tuple #[.agg #[.int .i64 0, .int .i64 0, .int .i64 0, .int .i64 0, .int .i64 0, .string ⟨#[]⟩, .slice none 0 0], .slice none 0 0, .int .i64 4])) w := by
  rw [h]
  rfl
theorem parsedA_yes {res : Option (Anc × List UInt8)} {x : Anc} {r : List UInt8} (h : res = some (x, r)) (y : AV) (X : Option Addr) (n c base : Nat) (w : World) (hn : r.length = n) (hd : y.d = x) (ho : y.Own w base) : ParsedA base res (.returned (.tuple #[y.v, .slice X n c, .int .i64 0])) w := by
  rw [h]
  exact ⟨y, X, c, by rw [hn], hd, ho⟩
theorem unrow_head_no {b : List UInt8} (h : b.length < 17) : unrow [4, 4, 4, 4, 1] b = .error 4 := by rw [unrow_head, if_pos h]
theorem unrow_head_yes {b : List UInt8} (h : ¬ b.length < 17) : unrow [4, 4, 4, 4, 1] b = .ok ([(num (b.take 4) : Int), (num ((b.drop 4).take 4) : Int), (num ((b.drop 8).take 4) : Int), (num ((b.drop 12).take 4) : Int), (num ((b.drop 16).take 1) : Int)], b.drop 17) := by rw [unrow_head, if_neg h]

set_option maxRecDepth 100000 in
set_option maxHeartbeats 1000000 in
theorem parse_short (z s l a : Int) (D : Nat) (A : Option Addr) (c n : Nat) (b : List UInt8) (w : World) (hn : b.length = n) (hA : Sl w w.heap.size A b) (hc : n ≤ c) (hm : c ≤ maxLen) (hl : n ≤ 4294967296) (h17 : b.length < 17) :
    Calls Tryd.prog 47 #[.agg #[.int .i64 z, .int .i64 D, .int .i64 s, .int .i64 l, .int .i64 a], .slice A n c] w fun e w' => ParsedA w.heap.size none e w' ∧ Below w.heap.size w w' := by
  have GG := g5_new w z D s l a
  have B0 := bl w (.cells #[.int .i64 z, .int .i64 D, .int .i64 s, .int .i64 l, .int .i64 a] 23)
  have L0 : (w.alloc (.cells #[.int .i64 z, .int .i64 D, .int .i64 s, .int .i64 l, .int .i64 a] 23)).heap.size = w.heap.size + 1 := by simp
  have GG1 := GG.keep (bl (w.alloc (.cells #[.int .i64 z, .int .i64 D, .int .i64 s, .int .i64 l, .int .i64 a] 23)) (.cells #[.int .i64 0, .int .i64 0, .int .i64 0, .int .i64 0, .int .i64 0, .string ⟨#[]⟩, .slice none 0 0] 31)) (by omega)
  have Q0 := sev_new (w.alloc (.cells #[.int .i64 z, .int .i64 D, .int .i64 s, .int .i64 l, .int .i64 a] 23)) (.int .i64 0) (.int .i64 0) (.int .i64 0) (.int .i64 0) (.int .i64 0) (.string ⟨#[]⟩) (.slice none 0 0) 31
  have B1 := kal B0 (.cells #[.int .i64 0, .int .i64 0, .int .i64 0, .int .i64 0, .int .i64 0, .string ⟨#[]⟩, .slice none 0 0] 31)
  have L1 : ((w.alloc (.cells #[.int .i64 z, .int .i64 D, .int .i64 s, .int .i64 l, .int .i64 a] 23)).alloc (.cells #[.int .i64 0, .int .i64 0, .int .i64 0, .int .i64 0, .int .i64 0, .string ⟨#[]⟩, .slice none 0 0] 31)).heap.size = w.heap.size + 2 := by simp
  rw [L0] at Q0
  have lw1 : w.heap.size + 2 ≤ ((w.alloc (.cells #[.int .i64 z, .int .i64 D, .int .i64 s, .int .i64 l, .int .i64 a] 23)).alloc (.cells #[.int .i64 0, .int .i64 0, .int .i64 0, .int .i64 0, .int .i64 0, .string ⟨#[]⟩, .slice none 0 0] 31)).heap.size := by omega
  clear GG B0 L0 L1
  go_enter Tryd.func47, Tryd.ntmps47
  go_upto_region 1 with fail
  generalize (w.alloc (.cells #[.int .i64 z, .int .i64 D, .int .i64 s, .int .i64 l, .int .i64 a] 23)).alloc (.cells #[.int .i64 0, .int .i64 0, .int .i64 0, .int .i64 0, .int .i64 0, .string ⟨#[]⟩, .slice none 0 0] 31) = w1 at *
  have cU := fun (W : World) (X : Option Addr) (d : Nat) (hW : Below w.heap.size w W) (h : SlV W W.heap.size X (ints [4, 4, 4, 4, 1])) => unrow_no n 5 A X c d b [4, 4, 4, 4, 1] 4 W hn rfl (by omega) hc hm hl (unrow_head_no h17) (hA.next hW) h
  have HU := Lib.hid cU
  clear cU hn hA hc hm hl h17
  go_upto_region 2 with (first
    | (go_at_call 52; (with_reducible refine (sizes_at _).mono ?_); rintro e w2 ⟨⟨A2, y2, rfl, -, p2⟩, hb2⟩)
    | (go_at_call 71; (with_reducible refine (HU.out _ _ _ (bt B1 hb2) (slv_own p2)).mono ?_); rintro e w3 ⟨rfl, hb3⟩))
  have Q := (Q0.keep hb2 (by omega)).keep hb3 (by have := hb2.size; omega)
  have B3 := bt (bt B1 hb2) hb3
  clear Q0 GG1 B1 hb2 hb3 p2
  obtain ⟨z0, z1, z2, z3, z4, z5, z6, f0, f1, f2, f3, f4, f5, f6⟩ := id Q
  go_wp2_with fail
  have k7 := (((((((Q.set0 (.int .i64 0)).set1 (.int .i64 0)).set2 (.int .i64 0)).set3 (.int .i64 0)).set4 (.int .i64 0)).set5 (.string ⟨#[]⟩)).set6 (.slice none 0 0))
  have hl : w.heap.size ≤ w.heap.size + 1 := by omega
  exact bodyPost_ret (v := .tuple #[.agg #[.int .i64 0, .int .i64 0, .int .i64 0, .int .i64 0, .int .i64 0, .string ⟨#[]⟩, .slice none 0 0], .slice none 0 0, .int .i64 4]) (by simp [results, Tryd.results47, go_sem, k7.c0, k7.c1, k7.c2, k7.c3, k7.c4, k7.c5, k7.c6]) rfl ⟨parsedA_none _ _, (((((((B3.setCell hl _).setCell hl _).setCell hl _).setCell hl _).setCell hl _).setCell hl _).setCell hl _)⟩


/-- What label.Read is told to answer. -/
def LabOk (w : World) : Prop := ∀ W, Below w.heap.size w W → ∀ (l : List UInt8) (n : Nat) (A : Option Addr) (c : Nat), l.length = n → Sl W W.heap.size A l → n ≤ c → c ≤ maxLen → Calls Tryd.prog 72 #[.slice A n c] W (LabR l W)
theorem labR_none {l : List UInt8} {W : World} {e : Ending} {w' : World} (h : LabR l W e w') (hr : readL l = none) : e = .returned (.tuple #[.string ⟨#[]⟩, .int .i64 0, .int .i64 4]) ∧ Below W.heap.size W w' := by
  have := h.1
  rw [hr] at this
  exact ⟨this, h.2⟩
theorem labR_some {l t : List UInt8} {W : World} {e : Ending} {w' : World} (h : LabR l W e w') (hr : readL l = some t) : e = .returned (.tuple #[.string ⟨t.toArray⟩, .int .i64 (1 + (t.length : Int)), .int .i64 0]) ∧ Below W.heap.size W w' := by
  have := h.1
  rw [hr] at this
  exact ⟨this, h.2⟩

set_option maxRecDepth 100000 in
set_option maxHeartbeats 1000000 in
theorem parse_nolab (z s l a : Int) (D : Nat) (A : Option Addr) (c n : Nat) (b r0 : List UInt8) (ns : List Int) (w : World) (hn : b.length = n) (hA : Sl w w.heap.size A b) (hc : n ≤ c) (hm : c ≤ maxLen) (hl : n ≤ 4294967296)
    (hu : unrow [4, 4, 4, 4, 1] b = .ok (ns, r0)) (hns : ns.length = 5) (hr : readL r0 = none) (cR : LabOk w) :
    Calls Tryd.prog 47 #[.agg #[.int .i64 z, .int .i64 D, .int .i64 s, .int .i64 l, .int .i64 a], .slice A n c] w fun e w' => ParsedA w.heap.size none e w' ∧ Below w.heap.size w w' := by
  have GG := g5_new w z D s l a
  have B0 := bl w (.cells #[.int .i64 z, .int .i64 D, .int .i64 s, .int .i64 l, .int .i64 a] 23)
  have L0 : (w.alloc (.cells #[.int .i64 z, .int .i64 D, .int .i64 s, .int .i64 l, .int .i64 a] 23)).heap.size = w.heap.size + 1 := by simp
  have GG1 := GG.keep (bl (w.alloc (.cells #[.int .i64 z, .int .i64 D, .int .i64 s, .int .i64 l, .int .i64 a] 23)) (.cells #[.int .i64 0, .int .i64 0, .int .i64 0, .int .i64 0, .int .i64 0, .string ⟨#[]⟩, .slice none 0 0] 31)) (by omega)
  have Q0 := sev_new (w.alloc (.cells #[.int .i64 z, .int .i64 D, .int .i64 s, .int .i64 l, .int .i64 a] 23)) (.int .i64 0) (.int .i64 0) (.int .i64 0) (.int .i64 0) (.int .i64 0) (.string ⟨#[]⟩) (.slice none 0 0) 31
  have B1 := kal B0 (.cells #[.int .i64 0, .int .i64 0, .int .i64 0, .int .i64 0, .int .i64 0, .string ⟨#[]⟩, .slice none 0 0] 31)
  have L1 : ((w.alloc (.cells #[.int .i64 z, .int .i64 D, .int .i64 s, .int .i64 l, .int .i64 a] 23)).alloc (.cells #[.int .i64 0, .int .i64 0, .int .i64 0, .int .i64 0, .int .i64 0, .string ⟨#[]⟩, .slice none 0 0] 31)).heap.size = w.heap.size + 2 := by simp
  rw [L0] at Q0
  have lw1 : w.heap.size + 2 ≤ ((w.alloc (.cells #[.int .i64 z, .int .i64 D, .int .i64 s, .int .i64 l, .int .i64 a] 23)).alloc (.cells #[.int .i64 0, .int .i64 0, .int .i64 0, .int .i64 0, .int .i64 0, .string ⟨#[]⟩, .slice none 0 0] 31)).heap.size := by omega
  clear GG B0 L0 L1
  go_enter Tryd.func47, Tryd.ntmps47
  go_upto_region 1 with fail
  generalize (w.alloc (.cells #[.int .i64 z, .int .i64 D, .int .i64 s, .int .i64 l, .int .i64 a] 23)).alloc (.cells #[.int .i64 0, .int .i64 0, .int .i64 0, .int .i64 0, .int .i64 0, .string ⟨#[]⟩, .slice none 0 0] 31) = w1 at *
  obtain ⟨q0, hq0⟩ : ∃ q, r0.length = q := ⟨_, rfl⟩
  have cU := fun (W : World) (X : Option Addr) (d : Nat) (hW : Below w.heap.size w W) (h : SlV W W.heap.size X (ints [4, 4, 4, 4, 1])) => unrow_yes n 5 5 q0 A X c d b r0 [4, 4, 4, 4, 1] ns W hn rfl (by omega) hc hm hl hu hns hq0 (hA.next hW) h
  have HU := Lib.hid cU
  have cL := fun (W : World) (X : Option Addr) (d : Nat) (hW : Below w.heap.size w W) (h : Sl W W.heap.size X r0) (h1 : q0 ≤ d) (h2 : d ≤ maxLen) => (cR W hW r0 q0 X d hq0 h h1 h2).mono fun e w' h => labR_none h hr
  have HL := Lib.hid cL
  clear cU hn hA hc hm hl hu cL cR hr hq0
  go_upto_region 5 with (first
    | (go_at_call 52; (with_reducible refine (sizes_at _).mono ?_); rintro e w2 ⟨⟨A2, y2, rfl, -, p2⟩, hb2⟩)
    | (go_at_call 71; (with_reducible refine (HU.out _ _ _ (bt B1 hb2) (slv_own p2)).mono ?_); rintro e w3 ⟨⟨A3, y3, X3, d3, rfl, k1, k2, o3, k3, k4, p3⟩, hb3⟩)
    | (go_at_call 72; (with_reducible refine (HL.out _ _ _ (bt (bt B1 hb2) hb3) (own_slh p3).sl k3 k4).mono ?_); rintro e w4 ⟨rfl, hb4⟩))
  have l2 := hb2.size
  have l3 := hb3.size
  have Q := ((Q0.keep hb2 (by omega)).keep hb3 (by omega)).keep hb4 (by omega)
  have B4 := bt (bt (bt B1 hb2) hb3) hb4
  clear Q0 GG1 B1 hb2 hb3 hb4 p2 l2 l3 o3 p3 k1 k2 k3 k4 HL HU
  obtain ⟨z0, z1, z2, z3, z4, z5, z6, f0, f1, f2, f3, f4, f5, f6⟩ := id Q
  go_wp2_with fail
  have k7 := (((((((Q.set0 (.int .i64 0)).set1 (.int .i64 0)).set2 (.int .i64 0)).set3 (.int .i64 0)).set4 (.int .i64 0)).set5 (.string ⟨#[]⟩)).set6 (.slice none 0 0))
  have hl : w.heap.size ≤ w.heap.size + 1 := by omega
  exact bodyPost_ret (v := .tuple #[.agg #[.int .i64 0, .int .i64 0, .int .i64 0, .int .i64 0, .int .i64 0, .string ⟨#[]⟩, .slice none 0 0], .slice none 0 0, .int .i64 4]) (by simp [results, Tryd.results47, go_sem, k7.c0, k7.c1, k7.c2, k7.c3, k7.c4, k7.c5, k7.c6]) rfl ⟨parsedA_none _ _, (((((((B4.setCell hl _).setCell hl _).setCell hl _).setCell hl _).setCell hl _).setCell hl _).setCell hl _)⟩
end Go.Proofs.YtdjleimndolonaaDoor.anc

namespace Go.Proofs.YtdjleimndolonaaDoor.anc
open Go.RowKit Go.Lib
open Go.Proofs.YtdjleimndolonaaDoor.gmt (Ok five_new check_ok check_no)
open Go.Proofs.YtdjleimndolonaaDoor.pck (num unrow Unrowed unrow_any)
open Go.Proofs.YtdjleimndolonaaDoor.lbl (encL readL labE)

theorem u8_home : 5 ≠ 62 := by decide
set_option maxRecDepth 100000 in
set_option maxHeartbeats 8000000 in
theorem parse_go (Z D : Nat) (s l a : Int) (A : Option Addr) (c n : Nat) (b r0 t : List UInt8) (n0 n1 n2 n3 n4 : Int) (res : Option (Anc × List UInt8)) (w : World) (ho : Ok Z D s l a) (hn : b.length = n) (hA : Sl w w.heap.size A b) (hc : n ≤ c) (hm : c ≤ maxLen) (hl : n ≤ 4294967296)
    (hu : unrow [4, 4, 4, 4, 1] b = .ok ([n0, n1, n2, n3, n4], r0)) (hln : r0.length ≤ n) (hr : readL r0 = some t) (cR : LabOk w)
    (h1 : (r0.drop (1 + t.length)).length < Z * (D + 6) → res = none) (h2 : ¬ (r0.drop (1 + t.length)).length < Z * (D + 6) → res = some (⟨n0, n1, n4, n2, n3, ⟨t.toArray⟩, homesN D (r0.drop (1 + t.length)) Z⟩, (r0.drop (1 + t.length)).drop (Z * (D + 6)))) :
    Calls Tryd.prog 47 #[.agg #[.int .i64 Z, .int .i64 D, .int .i64 s, .int .i64 l, .int .i64 a], .slice A n c] w fun e w' => ParsedA w.heap.size res e w' ∧ Below w.heap.size w w' := by
  have cS := fun W => homeSizes_at Z s l a D W ho
  have HO := Lib.hid ho
  obtain ⟨o1, o2, -⟩ := ho
  obtain ⟨z, hz⟩ : ∃ z : Int, z = Z := ⟨_, rfl⟩
  rw [← hz] at cS HO o1 ⊢
  have HZ := Lib.hid hz
  clear hz
  have GG := g5_new w z D s l a
  have B0 := bl w (.cells #[.int .i64 z, .int .i64 D, .int .i64 s, .int .i64 l, .int .i64 a] 23)
  have L0 : (w.alloc (.cells #[.int .i64 z, .int .i64 D, .int .i64 s, .int .i64 l, .int .i64 a] 23)).heap.size = w.heap.size + 1 := by simp
  have GG1 := GG.keep (bl (w.alloc (.cells #[.int .i64 z, .int .i64 D, .int .i64 s, .int .i64 l, .int .i64 a] 23)) (.cells #[.int .i64 0, .int .i64 0, .int .i64 0, .int .i64 0, .int .i64 0, .string ⟨#[]⟩, .slice none 0 0] 31)) (by omega)
  have Q0 := sev_new (w.alloc (.cells #[.int .i64 z, .int .i64 D, .int .i64 s, .int .i64 l, .int .i64 a] 23)) (.int .i64 0) (.int .i64 0) (.int .i64 0) (.int .i64 0) (.int .i64 0) (.string ⟨#[]⟩) (.slice none 0 0) 31
  have B1 := kal B0 (.cells #[.int .i64 0, .int .i64 0, .int .i64 0, .int .i64 0, .int .i64 0, .string ⟨#[]⟩, .slice none 0 0] 31)
  have L1 : ((w.alloc (.cells #[.int .i64 z, .int .i64 D, .int .i64 s, .int .i64 l, .int .i64 a] 23)).alloc (.cells #[.int .i64 0, .int .i64 0, .int .i64 0, .int .i64 0, .int .i64 0, .string ⟨#[]⟩, .slice none 0 0] 31)).heap.size = w.heap.size + 2 := by simp
  rw [L0] at Q0
  have lw1 : w.heap.size + 2 ≤ ((w.alloc (.cells #[.int .i64 z, .int .i64 D, .int .i64 s, .int .i64 l, .int .i64 a] 23)).alloc (.cells #[.int .i64 0, .int .i64 0, .int .i64 0, .int .i64 0, .int .i64 0, .string ⟨#[]⟩, .slice none 0 0] 31)).heap.size := by omega
  clear GG B0 L0 L1
  go_enter Tryd.func47, Tryd.ntmps47
  go_upto_region 1 with fail
  generalize (w.alloc (.cells #[.int .i64 z, .int .i64 D, .int .i64 s, .int .i64 l, .int .i64 a] 23)).alloc (.cells #[.int .i64 0, .int .i64 0, .int .i64 0, .int .i64 0, .int .i64 0, .string ⟨#[]⟩, .slice none 0 0] 31) = w1 at *
  obtain ⟨q0, hq0⟩ : ∃ q, r0.length = q := ⟨_, rfl⟩
  obtain ⟨m, hmt⟩ : ∃ m, t.length = m := ⟨_, rfl⟩
  have ht := (readL_sound hr).2.2
  have cU := fun (W : World) (X : Option Addr) (d : Nat) (hW : Below w.heap.size w W) (h : SlV W W.heap.size X (ints [4, 4, 4, 4, 1])) => unrow_yes n 5 5 q0 A X c d b r0 [4, 4, 4, 4, 1] [n0, n1, n2, n3, n4] W hn rfl (by omega) hc hm hl hu rfl hq0 (hA.next hW) h
  have HU := Lib.hid cU
  have cL := fun (W : World) (X : Option Addr) (d : Nat) (hW : Below w.heap.size w W) (h : Sl W W.heap.size X r0) (h1 : q0 ≤ d) (h2 : d ≤ maxLen) => (cR W hW r0 q0 X d hq0 h h1 h2).mono fun e w' h => labR_some h hr
  rw [hmt] at cL h1 h2
  obtain ⟨r, hre⟩ : ∃ r, r = r0.drop (1 + m) := ⟨_, rfl⟩
  rw [← hre] at h1 h2
  have H1 := Lib.hid h1
  have H2 := Lib.hid h2
  have HRE := Lib.hid hre
  have HL := Lib.hid cL
  have j1 : m + 1 ≤ q0 := by omega
  have j2 : q0 ≤ 4294967296 := by omega
  have HQ0 := Lib.hid hq0
  have HMT := Lib.hid hmt
  clear h1 h2 hre cU hn hA hc hm hl hu cL cR hr hq0 hmt hln ht
  go_upto_region 7 with (first
    | (go_at_call 52; (with_reducible refine (sizes_at _).mono ?_); rintro e w2 ⟨⟨A2, y2, rfl, -, p2⟩, hb2⟩)
    | (go_at_call 71; (with_reducible refine (HU.out _ _ _ (bt B1 hb2) (slv_own p2)).mono ?_); rintro e w3 ⟨⟨A3, y3, X3, d3, rfl, k1, k2, o3, k3, k4, p3⟩, hb3⟩)
    | (go_at_call 72; (with_reducible refine (HL.out _ _ _ (bt (bt B1 hb2) hb3) (own_slh p3).sl k3 k4).mono ?_); rintro e w4 ⟨rfl, hb4⟩))
  have l2 := hb2.size
  have l3 := hb3.size
  have l4 := hb4.size
  have Q := ((Q0.keep hb2 (by omega)).keep hb3 (by omega)).keep hb4 (by omega)
  have GG := ((GG1.keep hb2 (by omega)).keep hb3 (by omega)).keep hb4 (by omega)
  have B4 := bt (bt (bt B1 hb2) hb3) hb4
  have lw4 : w.heap.size + 2 ≤ w4.heap.size := by omega
  have rr := ((own_slh p3).below hb4)
  have hrr : SlH w4 (w.heap.size + 2) X3 r0 := fun hl => by
    obtain ⟨b', off', ha, h1, h2, hc'⟩ := rr hl
    exact ⟨b', off', ha, by omega, h2, hc'⟩
  have HRR := Lib.hid hrr
  obtain ⟨g, c9, hv9, -, -, hbg, hgw⟩ := o3.at (by rw [ints_length]; simp)
  simp only [Value.slice.injEq] at hv9
  obtain ⟨rfl, -, rfl⟩ := hv9
  have e0 := kst hb4 hgw (o3.cell 0 (by simp [ints_length]))
  have e1 := kst hb4 hgw (o3.cell 1 (by simp [ints_length]))
  have e2 := kst hb4 hgw (o3.cell 2 (by simp [ints_length]))
  have e3 := kst hb4 hgw (o3.cell 3 (by simp [ints_length]))
  have e4 := kst hb4 hgw (o3.cell 4 (by simp [ints_length]))
  rw [ints_get] at e0 e1 e2 e3 e4
  simp only [List.getElem_cons_zero, List.getElem_cons_succ] at e0 e1 e2 e3 e4
  have hgw4 : g < w4.heap.size := by omega
  unfold maxLen at k2 k4
  clear Q0 GG1 B1 hb2 hb3 hb4 p2 l2 l3 l4 o3 p3 rr hrr HL HU hbg hgw lw1 w1 w2 w3
  refine wp_region_tail (S := fun W => W.cell? ⟨g, 0, none⟩ = some (.int .i64 n0) ∧ W.cell? ⟨g, 1, none⟩ = some (.int .i64 n1) ∧ W.cell? ⟨g, 2, none⟩ = some (.int .i64 n2) ∧ W.cell? ⟨g, 3, none⟩ = some (.int .i64 n3) ∧ W.cell? ⟨g, 4, none⟩ = some (.int .i64 n4) ∧ Below w4.heap.size w4 W) 17 rfl (by kernel_rfl) (by kernel_rfl) ⟨e0, e1, e2, e3, e4, below_dr (Below.refl _ _)⟩ (fun hS => ?_)
  simp only [List.take_succ_cons, List.take_zero]
  (refine wpAnyH_take (i := 0) (v := ?_) rfl (by kernel_rfl) (by kernel_rfl) (by kernel_rfl) (fun _ _ _ h => h) (Or.inl ⟨by rfl, ?_⟩) (by assumption) ?_; rotate_left; (focus (intro w hSw; (try dsimp only at hSw); go_split_ands; go_simp <;> with_reducible rfl)); simp only [List.getElem_toArray, List.getElem_cons_zero, Act.put, List.setIfInBounds_toArray, List.set_cons_zero, List.set_cons_succ])
  (refine wpAnyH_take (i := 1) (v := ?_) rfl (by kernel_rfl) (by kernel_rfl) (by kernel_rfl) (fun _ _ _ h => h) (Or.inl ⟨by rfl, ?_⟩) (by assumption) ?_; rotate_left; (focus (intro w hSw; (try dsimp only at hSw); go_split_ands; go_simp <;> with_reducible rfl)); simp only [List.getElem_toArray, List.getElem_cons_zero, List.getElem_cons_succ, Act.put, List.setIfInBounds_toArray, List.set_cons_zero, List.set_cons_succ])
  (refine wpAnyH_take (i := 2) (v := ?_) rfl (by kernel_rfl) (by kernel_rfl) (by kernel_rfl) (fun _ _ _ h => h) (Or.inl ⟨by rfl, ?_⟩) (by assumption) ?_; rotate_left; (focus (intro w hSw; (try dsimp only at hSw); go_split_ands; go_simp <;> with_reducible rfl)); simp only [List.getElem_toArray, List.getElem_cons_zero, List.getElem_cons_succ, Act.put, List.setIfInBounds_toArray, List.set_cons_zero, List.set_cons_succ])
  (refine wpAnyH_take (i := 3) (v := ?_) rfl (by kernel_rfl) (by kernel_rfl) (by kernel_rfl) (fun _ _ _ h => h) (Or.inl ⟨by rfl, ?_⟩) (by assumption) ?_; rotate_left; (focus (intro w hSw; (try dsimp only at hSw); go_split_ands; go_simp <;> with_reducible rfl)); simp only [List.getElem_toArray, List.getElem_cons_zero, List.getElem_cons_succ, Act.put, List.setIfInBounds_toArray, List.set_cons_zero, List.set_cons_succ])
  (refine wpAnyH_take (i := 4) (v := ?_) rfl (by kernel_rfl) (by kernel_rfl) (by kernel_rfl) (fun _ _ _ h => h) (Or.inl ⟨by rfl, ?_⟩) (by assumption) ?_; rotate_left; (focus (intro w hSw; (try dsimp only at hSw); go_split_ands; go_simp <;> with_reducible rfl)); simp only [List.getElem_toArray, List.getElem_cons_zero, List.getElem_cons_succ, Act.put, List.setIfInBounds_toArray, List.set_cons_zero, List.set_cons_succ])
  (refine wpAnyH_take (i := 5) (v := ?_) rfl (by kernel_rfl) (by kernel_rfl) (by kernel_rfl) (fun _ _ _ h => h) (Or.inl ⟨by rfl, ?_⟩) (by assumption) ?_; rotate_left; (focus (intro w hSw; (try dsimp only at hSw); go_split_ands; go_simp <;> with_reducible rfl)); simp only [List.getElem_toArray, List.getElem_cons_zero, List.getElem_cons_succ, Act.put, List.setIfInBounds_toArray, List.set_cons_zero, List.set_cons_succ])
  (refine wpAnyH_take (i := 6) (v := ?_) rfl (by kernel_rfl) (by kernel_rfl) (by kernel_rfl) (fun _ _ _ h => h) (Or.inl ⟨by rfl, ?_⟩) (by assumption) ?_; rotate_left; (focus (intro w hSw; (try dsimp only at hSw); go_split_ands; go_simp <;> with_reducible rfl)); simp only [List.getElem_toArray, List.getElem_cons_zero, List.getElem_cons_succ, Act.put, List.setIfInBounds_toArray, List.set_cons_zero, List.set_cons_succ])
  (refine wpAnyH_take (i := 7) (v := ?_) rfl (by kernel_rfl) (by kernel_rfl) (by kernel_rfl) (fun _ _ _ h => h) (Or.inl ⟨by rfl, ?_⟩) (by assumption) ?_; rotate_left; (focus (intro w hSw; (try dsimp only at hSw); go_split_ands; go_simp <;> with_reducible rfl)); simp only [List.getElem_toArray, List.getElem_cons_zero, List.getElem_cons_succ, Act.put, List.setIfInBounds_toArray, List.set_cons_zero, List.set_cons_succ])
  (refine wpAnyH_take (i := 8) (v := ?_) rfl (by kernel_rfl) (by kernel_rfl) (by kernel_rfl) (fun _ _ _ h => h) (Or.inl ⟨by rfl, ?_⟩) (by assumption) ?_; rotate_left; (focus (intro w hSw; (try dsimp only at hSw); go_split_ands; go_simp <;> with_reducible rfl)); simp only [List.getElem_toArray, List.getElem_cons_zero, List.getElem_cons_succ, Act.put, List.setIfInBounds_toArray, List.set_cons_zero, List.set_cons_succ])
  (refine wpAnyH_take (i := 9) (v := ?_) rfl (by kernel_rfl) (by kernel_rfl) (by kernel_rfl) (fun _ _ _ h => h) (Or.inl ⟨by rfl, ?_⟩) (by assumption) ?_; rotate_left; (focus (intro w hSw; (try dsimp only at hSw); go_split_ands; go_simp <;> with_reducible rfl)); simp only [List.getElem_toArray, List.getElem_cons_zero, List.getElem_cons_succ, Act.put, List.setIfInBounds_toArray, List.set_cons_zero, List.set_cons_succ])
  (refine wpAnyH_take (i := 10) (v := ?_) rfl (by kernel_rfl) (by kernel_rfl) (by kernel_rfl) (fun _ _ _ h => h) (Or.inl ⟨by rfl, ?_⟩) (by assumption) ?_; rotate_left; (focus (intro w hSw; (try dsimp only at hSw); go_split_ands; go_simp <;> with_reducible rfl)); simp only [List.getElem_toArray, List.getElem_cons_zero, List.getElem_cons_succ, Act.put, List.setIfInBounds_toArray, List.set_cons_zero, List.set_cons_succ])
  (refine wpAnyH_take (i := 11) (v := ?_) rfl (by kernel_rfl) (by kernel_rfl) (by kernel_rfl) (fun _ _ _ h => h) (Or.inl ⟨by rfl, ?_⟩) (by assumption) ?_; rotate_left; (focus (intro w hSw; (try dsimp only at hSw); go_split_ands; go_simp <;> with_reducible rfl)); simp only [List.getElem_toArray, List.getElem_cons_zero, List.getElem_cons_succ, Act.put, List.setIfInBounds_toArray, List.set_cons_zero, List.set_cons_succ])
  (refine wpAnyH_take (i := 12) (v := ?_) rfl (by kernel_rfl) (by kernel_rfl) (by kernel_rfl) (fun _ _ _ h => h) (Or.inl ⟨by rfl, ?_⟩) (by assumption) ?_; rotate_left; (focus (intro w hSw; (try dsimp only at hSw); go_split_ands; go_simp <;> with_reducible rfl)); simp only [List.getElem_toArray, List.getElem_cons_zero, List.getElem_cons_succ, Act.put, List.setIfInBounds_toArray, List.set_cons_zero, List.set_cons_succ])
  (refine wpAnyH_take (i := 13) (v := ?_) rfl (by kernel_rfl) (by kernel_rfl) (by kernel_rfl) (fun _ _ _ h => h) (Or.inl ⟨by rfl, ?_⟩) (by assumption) ?_; rotate_left; (focus (intro w hSw; (try dsimp only at hSw); go_split_ands; go_simp <;> with_reducible rfl)); simp only [List.getElem_toArray, List.getElem_cons_zero, List.getElem_cons_succ, Act.put, List.setIfInBounds_toArray, List.set_cons_zero, List.set_cons_succ])
  (refine wpAnyH_take (i := 14) (v := ?_) rfl (by kernel_rfl) (by kernel_rfl) (by kernel_rfl) (fun _ _ _ h => h) (Or.inl ⟨by rfl, ?_⟩) (by assumption) ?_; rotate_left; (focus (intro w hSw; (try dsimp only at hSw); go_split_ands; go_simp <;> with_reducible rfl)); simp only [List.getElem_toArray, List.getElem_cons_zero, List.getElem_cons_succ, Act.put, List.setIfInBounds_toArray, List.set_cons_zero, List.set_cons_succ])
  (refine wpAnyH_take (i := 15) (v := ?_) rfl (by kernel_rfl) (by kernel_rfl) (by kernel_rfl) (fun _ _ _ h => h) (Or.inl ⟨by rfl, ?_⟩) (by assumption) ?_; rotate_left; (focus (intro w hSw; (try dsimp only at hSw); go_split_ands; go_simp <;> with_reducible rfl)); simp only [List.getElem_toArray, List.getElem_cons_zero, List.getElem_cons_succ, Act.put, List.setIfInBounds_toArray, List.set_cons_zero, List.set_cons_succ])
  (refine wpAnyH_take (i := 16) (v := ?_) rfl (by kernel_rfl) (by kernel_rfl) (by kernel_rfl) (fun _ _ _ h => h) (Or.inl ⟨by rfl, ?_⟩) (by assumption) ?_; rotate_left; (focus (intro w hSw; (try dsimp only at hSw); go_split_ands; go_simp <;> with_reducible rfl)); simp only [List.getElem_toArray, List.getElem_cons_zero, List.getElem_cons_succ, Act.put, List.setIfInBounds_toArray, List.set_cons_zero, List.set_cons_succ])
  refine wpAnyH_done (by kernel_rfl) ?_ _
  obtain ⟨z0, z1, z2, z3, z4, z5, z6, f0, f1, f2, f3, f4, f5, f6⟩ := id Q
  simp only [tailQ]
  go_simp
  have hrr := HRR.out
  obtain ⟨bx, ox, rfl, hbx1, -, -⟩ := id (hrr (by rw [HQ0.out]; omega))
  have Q7 := (((((((Q.set0 (.int .i64 n0)).set1 (.int .i64 n1)).set2 (.int .i64 n4)).set3 (.int .i64 n2)).set4 (.int .i64 n3)).set5 (.string ⟨t.toArray⟩)).set6 (.slice none 0 0)).keep (below_dr (Below.refl w4.heap.size _)) (show w.heap.size + 1 < w4.heap.size by omega)
  have hne : w.heap.size ≠ w.heap.size + 1 := by omega
  have G7 := (((((((GG.set (o := 0) hne (.int .i64 n0)).set (o := 1) hne (.int .i64 n1)).set (o := 2) hne (.int .i64 n4)).set (o := 3) hne (.int .i64 n2)).set (o := 4) hne (.int .i64 n3)).set (o := 5) hne (.string ⟨t.toArray⟩)).set (o := 6) hne (.slice none 0 0)).keep (below_dr (Below.refl w4.heap.size _)) (show w.heap.size < w4.heap.size by omega)
  have hlg : w.heap.size + 1 < w.heap.size + 2 := by omega
  have S7 := (((((((hrr.set (o := 0) hlg (.int .i64 n0)).set (o := 1) hlg (.int .i64 n1)).set (o := 2) hlg (.int .i64 n4)).set (o := 3) hlg (.int .i64 n2)).set (o := 4) hlg (.int .i64 n3)).set (o := 5) hlg (.string ⟨t.toArray⟩)).set (o := 6) hlg (.slice none 0 0)).below (below_dr (Below.refl _ _))
  have hl : w.heap.size ≤ w.heap.size + 1 := by omega
  have B7 := below_dr (((((((B4.setCell (p := ⟨w.heap.size + 1, 0, none⟩) hl (.int .i64 n0)).setCell (p := ⟨w.heap.size + 1, 1, none⟩) hl (.int .i64 n1)).setCell (p := ⟨w.heap.size + 1, 2, none⟩) hl (.int .i64 n4)).setCell (p := ⟨w.heap.size + 1, 3, none⟩) hl (.int .i64 n2)).setCell (p := ⟨w.heap.size + 1, 4, none⟩) hl (.int .i64 n3)).setCell (p := ⟨w.heap.size + 1, 5, none⟩) hl (.string ⟨t.toArray⟩)).setCell (p := ⟨w.heap.size + 1, 6, none⟩) hl (.slice none 0 0))
  have l7 : w.heap.size + 2 ≤ ((((((((w4.setCell ⟨w.heap.size + 1, 0, none⟩ (.int .i64 n0)).setCell ⟨w.heap.size + 1, 1, none⟩ (.int .i64 n1)).setCell ⟨w.heap.size + 1, 2, none⟩ (.int .i64 n4)).setCell ⟨w.heap.size + 1, 3, none⟩ (.int .i64 n2)).setCell ⟨w.heap.size + 1, 4, none⟩ (.int .i64 n3)).setCell ⟨w.heap.size + 1, 5, none⟩ (.string ⟨t.toArray⟩)).setCell ⟨w.heap.size + 1, 6, none⟩ (.slice none 0 0)).drew).heap.size := by simpa using lw4
  clear z0 z1 z2 z3 z4 z5 z6 f0 f1 f2 f3 f4 f5 f6 e0 e1 e2 e3 e4 Q GG hrr HRR B4 hne hl hlg hgw4 lw4
  generalize ((((((((w4.setCell ⟨w.heap.size + 1, 0, none⟩ (.int .i64 n0)).setCell ⟨w.heap.size + 1, 1, none⟩ (.int .i64 n1)).setCell ⟨w.heap.size + 1, 2, none⟩ (.int .i64 n4)).setCell ⟨w.heap.size + 1, 3, none⟩ (.int .i64 n2)).setCell ⟨w.heap.size + 1, 4, none⟩ (.int .i64 n3)).setCell ⟨w.heap.size + 1, 5, none⟩ (.string ⟨t.toArray⟩)).setCell ⟨w.heap.size + 1, 6, none⟩ (.slice none 0 0)).drew) = w7 at *
  have HSS := Lib.hid S7
  obtain ⟨g0, g1, g2, g3, g4⟩ := id G7
  have i1 : (0 : Int) ≤ 1 + (m : Int) := by omega
  have i2 : 1 + (m : Int) ≤ (q0 : Int) := by omega
  have i3 : 1 + (m : Int) ≤ (d3 : Int) := by omega
  have i4 : (1 + (m : Int)).toNat = 1 + m := by omega
  have HRL := Lib.hid (show r.length = q0 - (1 + m) by rw [HRE.out, List.length_drop, HQ0.out])
  clear S7 g0 g1 g2 g3 g4
  go_upto_region 8 with fail
  go_cut [5] from 46 to 48 (fun v wx => ∃ (X : Option Addr) (d : Nat), v = .slice X (q0 - (1 + m)) d ∧ SlH wx (w.heap.size + 2) X r ∧ q0 - (1 + m) ≤ d ∧ d ≤ 9223372036854775807 ∧ wx = w7)
  case first =>
    by_cases hd : d3 = 1 + m
    · have HY : Hid (SlH w7 (w.heap.size + 2) (some ⟨bx, ox, none⟩) r) := Lib.hid (by rw [List.eq_nil_of_length_eq_zero (show r.length = 0 by rw [HRL.out]; omega)]; exact SlH.nil _ _ _)
      clear HSS
      go_wp2_with fail
      go_meet
      exact ⟨some ⟨bx, ox, none⟩, _, rfl, HY.out, by omega, by omega, rfl⟩
    · have HY : Hid (SlH w7 (w.heap.size + 2) (some ⟨bx, ox + (1 + m), none⟩) r) := Lib.hid (by rw [HRE.out]; exact HSS.out.drop _)
      clear HSS
      go_wp2_with fail
      go_meet
      exact ⟨some ⟨bx, ox + (1 + m), none⟩, _, rfl, HY.out, by omega, by omega, rfl⟩
  case rest =>
    obtain ⟨X5, d5, rfl, S5, k5, k6, rfl⟩ := hcut
    obtain ⟨q5, hq5⟩ : ∃ q, q = q0 - (1 + m) := ⟨_, rfl⟩
    rw [← hq5] at HRL k5 ⊢
    have j5 : q5 ≤ 4294967296 := by omega
    clear hq5 i1 i2 i3 i4 j1 j2 k1 k2 k3 k4 HSS HRE HQ0 HMT
    obtain ⟨g0, g1, g2, g3, g4⟩ := id G7
    go_wp2_with fail
    clear g0 g1 g2 g3 g4
    go_loopw [5, 51] (fun u i w' => ∃ (k q d : Nat) (X : Option Addr) (rs : List HomR) (v : Value), k ≤ Z ∧ i = .int .i64 k ∧ u = .slice X q d ∧ Hid (k * (D + 6) ≤ r.length ∧ (r.drop (k * (D + 6))).length = q) ∧ q ≤ d ∧ d ≤ 9223372036854775807 ∧ q ≤ 4294967296 ∧ SlH w' (w.heap.size + 2) X (r.drop (k * (D + 6))) ∧ hds rs = homesN D r k ∧ OwnH w' (w.heap.size + 2) v rs ∧ Sev w' (w.heap.size + 1) (.int .i64 n0) (.int .i64 n1) (.int .i64 n4) (.int .i64 n2) (.int .i64 n3) (.string ⟨t.toArray⟩) v ∧ G5 w' w.heap.size z D s l a ∧ Below w.heap.size w w' ∧ w.heap.size + 2 ≤ w'.heap.size) (fun _ i _ => Z - (RowKit.intOf i).toNat)
    case atStart => exact ⟨0, q5, d5, X5, [], .slice none 0 0, by omega, rfl, rfl, Lib.hid ⟨by omega, by simpa using HRL.out⟩, k5, k6, j5, by simpa using S5, rfl, ownH_nil _ _, Q7, G7, B7, l7⟩
    case round =>
      clear Q7 G7 B7 l7 S5 k5 k6 j5 HRL
      obtain ⟨w8, rfl⟩ : ∃ x, x = wr := ⟨wr, rfl⟩
      obtain ⟨k, q, d, X, rs, v, hk, rfl, rfl, HQ, k5, k6, j5, S8, hrs, hown, Q8, G8, hbr, hl3⟩ := hrel
      by_cases hlt : k < Z
      · have i1 : (k : Int) < z := by have := HZ.out; omega
        obtain ⟨g0, g1, g2, g3, g4⟩ := id G8
        obtain ⟨rk, hrk⟩ : ∃ rk, rk = r.drop (k * (D + 6)) := ⟨_, rfl⟩
        have HRK := Lib.hid hrk
        rw [← hrk] at S8
        have hqr : rk.length = q := by rw [hrk]; exact HQ.out.2
        have HSL := Lib.hid S8
        have HRS := Lib.hid hrs
        clear hrk hrs
        by_cases hd6 : q < D + 6
        · have HN : Hid (res = none) := Lib.hid (H1.out (by
            have h1 := HQ.out
            rw [List.length_drop] at h1
            have h2 : (k + 1) * (D + 6) ≤ Z * (D + 6) := Nat.mul_le_mul_right _ hlt
            rw [Nat.succ_mul] at h2
            omega))
          have cU := fun (W : World) (Y : Option Addr) (e : Nat) (hW : Below w8.heap.size w8 W) (h : SlV W W.heap.size Y (ints (List.replicate (D + 2) 1 ++ [4]))) => unrow_no q (D + 3) X Y d e rk (List.replicate (D + 2) 1 ++ [4]) 4 W hqr (by simp) (by omega) k5 (by unfold maxLen; omega) j5 (by rw [unrow_home, if_pos (by omega)]) (S8.below hW).sl h
          have HU := Lib.hid cU
          clear cU hqr S8
          go_upto_region 12 with (first
            | (go_at_call 55; (with_reducible refine (cS _).mono ?_); rintro e wa ⟨⟨Aa, ya, rfl, -, pa⟩, hba⟩)
            | (go_at_call 71; (with_reducible refine (HU.out _ _ _ hba (slv_own pa)).mono ?_); rintro e wb ⟨rfl, hbb⟩))
          have Q := (Q8.keep hba (by omega)).keep hbb (by have := hba.size; omega)
          have B := bt (bt hbr hba) hbb
          clear Q8 G8 hba hbb pa g0 g1 g2 g3 g4 HU hown HSL HRS H2
          obtain ⟨z0, z1, z2, z3, z4, z5, z6, f0, f1, f2, f3, f4, f5, f6⟩ := id Q
          go_wp2_with fail
          have k7 := (((((((Q.set0 (.int .i64 0)).set1 (.int .i64 0)).set2 (.int .i64 0)).set3 (.int .i64 0)).set4 (.int .i64 0)).set5 (.string ⟨#[]⟩)).set6 (.slice none 0 0))
          have hl : w.heap.size ≤ w.heap.size + 1 := by omega
          exact bodyPost_ret (v := .tuple #[.agg #[.int .i64 0, .int .i64 0, .int .i64 0, .int .i64 0, .int .i64 0, .string ⟨#[]⟩, .slice none 0 0], .slice none 0 0, .int .i64 4]) (by simp [results, Tryd.results47, go_sem, k7.c0, k7.c1, k7.c2, k7.c3, k7.c4, k7.c5, k7.c6]) rfl ⟨parsedA_no HN.out _ _, (((((((B.setCell hl _).setCell hl _).setCell hl _).setCell hl _).setCell hl _).setCell hl _).setCell hl _)⟩

        · have hps : (homeN D rk).ps.length = D + 1 := homeN_len D rk (by omega)
          have cU := fun (W : World) (Y : Option Addr) (e : Nat) (hW : Below w8.heap.size w8 W) (h : SlV W W.heap.size Y (ints (List.replicate (D + 2) 1 ++ [4]))) => unrow_yes q (D + 3) (D + 3) (q - (D + 6)) X Y d e rk (rk.drop (D + 6)) (List.replicate (D + 2) 1 ++ [4]) (homeNs (homeN D rk)) W hqr (by simp) (by omega) k5 (by unfold maxLen; omega) j5 (by rw [unrow_home, if_neg (by omega)]) (by show ((homeN D rk).ps ++ [_, _]).length = _; rw [List.length_append, hps]; rfl) (by rw [List.length_drop, hqr]) (S8.below hW).sl h
          have HU := Lib.hid cU
          have HQ2 := Lib.hid (show (k + 1) * (D + 6) ≤ r.length ∧ (r.drop ((k + 1) * (D + 6))).length = q - (D + 6) by
            have h1 := HQ.out
            rw [List.length_drop] at h1
            rw [List.length_drop, Nat.succ_mul]
            omega)
          have HD2 := Lib.hid (show rk.drop (D + 6) = r.drop ((k + 1) * (D + 6)) by rw [HRK.out, List.drop_drop, Nat.succ_mul])
          have HL := Lib.hid (show hds rs ++ [homeN D rk] = homesN D r (k + 1) by rw [homesN_next, HRS.out, HRK.out])
          have HLK := Lib.hid (show rs.length = k by have := congrArg List.length HRS.out; rwa [hds_length, homesN_len] at this)
          have HPS := Lib.hid hps
          clear cU hqr S8 hps hd6
          go_upto_region 14 with (first
            | (go_at_call 55; (with_reducible refine (cS _).mono ?_); rintro e wa ⟨⟨Aa, ya, rfl, -, pa⟩, hba⟩)
            | (go_at_call 71; (with_reducible refine (HU.out _ _ _ hba (slv_own pa)).mono ?_); rintro e wb ⟨⟨A3, c3, X3, d3, rfl, k7, k8, oq, k9, k10, pq⟩, hbb⟩))
          have la := hba.size
          have lb := hbb.size
          have Q9 := (Q8.keep hba (by omega)).keep hbb (by omega)
          have G9 := (G8.keep hba (by omega)).keep hbb (by omega)
          have ho9 := (hown.below hba).below hbb
          have hbr9 := bt (bt hbr hba) hbb
          have hl9 : w.heap.size + 2 ≤ wb.heap.size := by omega
          have pq9 := pq.less (base' := w.heap.size + 2) (by omega)
          have HH := Lib.hid (show ∀ W, Below wb.heap.size wb W → Calls Tryd.prog 73 #[.agg #[.int .i64 z, .int .i64 D, .int .i64 s, .int .i64 l, .int .i64 a], .slice A3 (D + 3) c3] W fun e w' => HomeA W.heap.size D (homeN D rk).ps (homeN D rk).nx (homeN D rk).rt e w' ∧ Below W.heap.size W w' from fun W hW => homeOf_at z s l a D A3 c3 _ _ _ W HO.out HPS.out (slv_own (oq.below hW)) k7)
          clear g0 g1 g2 g3 g4
          obtain ⟨g0, g1, g2, g3, g4⟩ := id G9
          have p0 := Q9.c6
          unfold maxLen at k10
          clear Q8 G8 hba hbb pa la lb hown oq pq hbr hl3 HU HQ HSL HRS k7 k8
          refine wp_region_tail (S := fun W => W.cell? ⟨w.heap.size + 1, 6, none⟩ = some v ∧ W.cell? ⟨w.heap.size, 0, none⟩ = some (.int .i64 z) ∧ W.cell? ⟨w.heap.size, 1, none⟩ = some (.int .i64 D) ∧ W.cell? ⟨w.heap.size, 2, none⟩ = some (.int .i64 s) ∧ W.cell? ⟨w.heap.size, 3, none⟩ = some (.int .i64 l) ∧ W.cell? ⟨w.heap.size, 4, none⟩ = some (.int .i64 a) ∧ Below (w.heap.size + 2) wb W) 8 rfl (by kernel_rfl) (by kernel_rfl) ⟨p0, g0, g1, g2, g3, g4, below_dr (Below.refl _ _)⟩ (fun hS => ?_)
          simp only [List.take_succ_cons, List.take_zero]
          (refine wpAnyH_take (i := 0) (v := ?_) rfl (by kernel_rfl) (by kernel_rfl) (by kernel_rfl) (fun _ _ _ h => h) (Or.inl ⟨by rfl, ?_⟩) (by assumption) ?_; rotate_left; (focus (intro w hSw; (try dsimp only at hSw); go_split_ands; go_simp <;> with_reducible rfl)); simp only [List.getElem_toArray, List.getElem_cons_zero, Act.put, List.setIfInBounds_toArray, List.set_cons_zero, List.set_cons_succ])
          (refine wpAnyH_take (i := 1) (v := ?_) rfl (by kernel_rfl) (by kernel_rfl) (by kernel_rfl) (fun _ _ _ h => h) (Or.inl ⟨by rfl, ?_⟩) (by assumption) ?_; rotate_left; (focus (intro w hSw; (try dsimp only at hSw); go_split_ands; go_simp <;> with_reducible rfl)); simp only [List.getElem_toArray, List.getElem_cons_zero, List.getElem_cons_succ, Act.put, List.setIfInBounds_toArray, List.set_cons_zero, List.set_cons_succ])
          (refine wpAnyH_take (i := 2) (v := ?_) rfl (by kernel_rfl) (by kernel_rfl) (by kernel_rfl) (fun _ _ _ h => h) (Or.inl ⟨by rfl, ?_⟩) (by assumption) ?_; rotate_left; (focus (intro w hSw; (try dsimp only at hSw); go_split_ands; go_simp <;> with_reducible rfl)); simp only [List.getElem_toArray, List.getElem_cons_zero, List.getElem_cons_succ, Act.put, List.setIfInBounds_toArray, List.set_cons_zero, List.set_cons_succ])
          (refine wpAnyH_take (i := 3) (v := ?_) rfl (by kernel_rfl) (by kernel_rfl) (by kernel_rfl) (fun _ _ _ h => h) (Or.inl ⟨by rfl, ?_⟩) (by assumption) ?_; rotate_left; (focus (intro w hSw; (try dsimp only at hSw); go_split_ands; go_simp <;> with_reducible rfl)); simp only [List.getElem_toArray, List.getElem_cons_zero, List.getElem_cons_succ, Act.put, List.setIfInBounds_toArray, List.set_cons_zero, List.set_cons_succ])
          refine wpAnyH_ready (rs := [4]) (by kernel_rfl) (by simp) ?_
          refine AllReadyH.cons rfl (fun K hK => ?_) AllReadyH.nil
          go_simp
          (with_reducible refine (HH.out _ (below_dr (Below.refl _ _))).mono ?_)
          rintro e wo ⟨⟨Xo, co, rfl, oo⟩, hbo⟩
          have tw : Below wb.heap.size wb wo := bt (below_dr (Below.refl _ _)) hbo
          have so : Below (w.heap.size + 2) wb wo := tw.mono hl9
          refine hK.out _ _ ⟨ks so (by omega) p0, ks so (by omega) g0, ks so (by omega) g1, ks so (by omega) g2, ks so (by omega) g3, ks so (by omega) g4, so⟩ (fun hS => ?_)
          clear hK K
          refine wpAnyH_ready (rs := [5]) (by kernel_rfl) (by simp) ?_
          refine AllReadyH.cons rfl (fun K hK => ?_) AllReadyH.nil
          go_simp
          have sa : Below (w.heap.size + 2) wb (wo.alloc (.cells #[.slice Xo (D + 1) co, .int .i64 (homeN D rk).nx, .int .i64 (homeN D rk).rt] 62)) := ka so hl9 _
          have ta : Below wb.heap.size wb (wo.alloc (.cells #[.slice Xo (D + 1) co, .int .i64 (homeN D rk).nx, .int .i64 (homeN D rk).rt] 62)) := kal tw _
          refine hK.out _ _ ⟨ks sa (by omega) p0, ks sa (by omega) g0, ks sa (by omega) g1, ks sa (by omega) g2, ks sa (by omega) g3, ks sa (by omega) g4, sa⟩ (fun hS => ?_)
          clear hK K
          refine wpAnyH_ready (rs := [6]) (by kernel_rfl) (by simp) ?_
          refine AllReadyH.cons rfl (fun K hK => ?_) AllReadyH.nil
          have ow := ho9.below ta
          have pw := pq9.below ta
          have lta : wb.heap.size ≤ (wo.alloc (.cells #[.slice Xo (D + 1) co, .int .i64 (homeN D rk).nx, .int .i64 (homeN D rk).rt] 62)).heap.size := ta.size
          have oO := OwnV.below oo (bl wo (.cells #[.slice Xo (D + 1) co, .int .i64 (homeN D rk).nx, .int .i64 (homeN D rk).rt] 62))
          have src := src_home (P := Tryd.prog) (heap_alloc_new wo (.cells #[.slice Xo (D + 1) co, .int .i64 (homeN D rk).nx, .int .i64 (homeN D rk).rt] 62)) Tryd.underlying29 (by simp [Value.oneCell'])
          have lso := so.size
          have oO2 : OwnV (wo.alloc (.cells #[.slice Xo (D + 1) co, .int .i64 (homeN D rk).nx, .int .i64 (homeN D rk).rt] 62)) (w.heap.size + 2) 3 (.slice Xo (homeN D rk).ps.length co) (ints (homeN D rk).ps) := by
            rw [HPS.out]
            exact oO.less (show w.heap.size + 2 ≤ wb.heap.size by omega)
          generalize wo.alloc (.cells #[.slice Xo (D + 1) co, .int .i64 (homeN D rk).nx, .int .i64 (homeN D rk).rt] 62) = wx at *
          refine step_row wx (by rfl) _ _ _ _ (by rfl) (w.heap.size + 2) 3 40 62 (.agg #[.slice none 0 0, .int .i64 0, .int .i64 0]) Tryd.underlying29 h_info (by rfl) v rs.length (hvs rs) (by rfl) ow.1 _ 1 _ (by rfl) src (by rw [HLK.out]; unfold maxLen; omega) (by have := HLK.out; omega) (by omega) ?_
          intro v3 wy h3 hg3
          have hb3 : Below (w.heap.size + 2) wx wy := (Below.refl _ _).mono (by omega) |>.grown hg3 (by omega) (fun q hq => (World.ownsRow.lt ow.1 q hq).1)
          have bwy : Below (w.heap.size + 2) wb wy := (ta.mono hl9).trans hb3
          refine hK.out _ _ ⟨ks bwy (by omega) p0, ks bwy (by omega) g0, ks bwy (by omega) g1, ks bwy (by omega) g2, ks bwy (by omega) g3, ks bwy (by omega) g4, bwy⟩ (fun hS => ?_)
          clear hK K
          simp only [List.getElem_toArray, List.getElem_cons_zero, List.getElem_cons_succ, Act.put, List.setIfInBounds_toArray, List.set_cons_zero, List.set_cons_succ]
          (refine wpAnyH_take (i := 7) (v := ?_) rfl (by kernel_rfl) (by kernel_rfl) (by kernel_rfl) (fun _ _ _ h => h) (Or.inl ⟨by rfl, ?_⟩) (by assumption) ?_; rotate_left; (focus (intro w hSw; (try dsimp only at hSw); go_split_ands; go_simp <;> with_reducible rfl)); simp only [List.getElem_toArray, List.getElem_cons_zero, List.getElem_cons_succ, Act.put, List.setIfInBounds_toArray, List.set_cons_zero, List.set_cons_succ])
          refine wpAnyH_done (by kernel_rfl) ?_ _
          have P4 := Q9.keep bwy (by omega)
          have G4 := G9.keep bwy (by omega)
          have pz := Own.kept pw hg3 (row_apart pw ow.1 u8_home)
          have c6 := P4.c6
          have f6 := P4.f6
          obtain ⟨A9, c9, rfl, -, -, -⟩ := row_form h3
          simp only [tailQ]
          go_simp
          have hvr : (⟨Xo, co, (homeN D rk).ps, (homeN D rk).nx, (homeN D rk).rt⟩ : HomR).vs = [.slice Xo (D + 1 : Nat) co, .int .i64 (homeN D rk).nx, .int .i64 (homeN D rk).rt] := by unfold HomR.vs; simp only; rw [HPS.out]
          have hfin : OwnH (wy.setCell ⟨w.heap.size + 1, 6, none⟩ (.slice A9 (rs.length + 1) c9)) (w.heap.size + 2) (.slice A9 (rs.length + 1) c9) (rs ++ [⟨Xo, co, (homeN D rk).ps, (homeN D rk).nx, (homeN D rk).rt⟩]) :=
            OwnH.cell_set (ow.more (r := ⟨Xo, co, (homeN D rk).ps, (homeN D rk).nx, (homeN D rk).rt⟩) hg3 oO2 (by rw [hvr]; exact h3)) (by omega) _
          have hSf : SlH (wy.setCell ⟨w.heap.size + 1, 6, none⟩ (.slice A9 (rs.length + 1) c9)) (w.heap.size + 2) X3 (r.drop ((k + 1) * (D + 6))) := by
            rw [← HD2.out]
            exact (own_slh pz).set (by omega) _
          have hbf : Below w.heap.size w (wy.setCell ⟨w.heap.size + 1, 6, none⟩ (.slice A9 (rs.length + 1) c9)) := (hbr9.trans (bwy.mono (by omega))).setCell (show w.heap.size ≤ w.heap.size + 1 by omega) _
          have hsz := bwy.size
          clear c6 f6 p0 g0 g1 g2 g3 g4 hvr
          go_wp2
          go_roundw
          case rel => exact ⟨k + 1, q - (D + 6), d3, X3, _, _, by omega, by go_num, rfl, HQ2, k9, by omega, by omega, hSf, by rw [hds_append]; exact HL.out, hfin, P4.set6 _, G4.set (by omega) _, hbf, by simp; omega⟩
          case measure => simp [RowKit.intOf]; omega
      · have i1 : ¬ (k : Int) < z := by have := HZ.out; omega
        obtain rfl : k = Z := by omega
        have hres : res = some (⟨n0, n1, n4, n2, n3, ⟨t.toArray⟩, homesN D r k⟩, r.drop (k * (D + 6))) := H2.out (by have := HQ.out.1; omega)
        have HR := Lib.hid hres
        obtain ⟨c0, c1, c2, c3, c4, c5, c6, f0, f1, f2, f3, f4, f5, f6⟩ := id Q8
        obtain ⟨A1, e1, rfl, -, -, -⟩ := row_form hown.1
        have HRS := Lib.hid hrs
        clear hres hrs S8 H1 H2
        go_wp2_with fail
        have k7 := (((((((Q8.set0 (.int .i64 n0)).set1 (.int .i64 n1)).set2 (.int .i64 n4)).set3 (.int .i64 n2)).set4 (.int .i64 n3)).set5 (.string ⟨t.toArray⟩)).set6 (.slice A1 rs.length e1))
        have hg : w.heap.size + 1 < w.heap.size + 2 := by omega
        have h7 := (((((((hown.cell_set (o := 0) hg (.int .i64 n0)).cell_set (o := 1) hg (.int .i64 n1)).cell_set (o := 2) hg (.int .i64 n4)).cell_set (o := 3) hg (.int .i64 n2)).cell_set (o := 4) hg (.int .i64 n3)).cell_set (o := 5) hg (.string ⟨t.toArray⟩)).cell_set (o := 6) hg (.slice A1 rs.length e1))
        have hl : w.heap.size ≤ w.heap.size + 1 := by omega
        exact bodyPost_ret (v := .tuple #[.agg #[.int .i64 n0, .int .i64 n1, .int .i64 n4, .int .i64 n2, .int .i64 n3, .string ⟨t.toArray⟩, .slice A1 rs.length e1], .slice X q d, .int .i64 0]) (by simp [results, Tryd.results47, go_sem, k7.c0, k7.c1, k7.c2, k7.c3, k7.c4, k7.c5, k7.c6]) rfl ⟨parsedA_yes HR.out ⟨n0, n1, n4, n2, n3, ⟨t.toArray⟩, A1, e1, rs⟩ X q d _ _ HQ.out.2 (by show (⟨n0, n1, n4, n2, n3, ⟨t.toArray⟩, hds rs⟩ : Anc) = _; rw [HRS.out]) (OwnH.less h7 (by omega)), (((((((hbr.setCell hl _).setCell hl _).setCell hl _).setCell hl _).setCell hl _).setCell hl _).setCell hl _)⟩
end Go.Proofs.YtdjleimndolonaaDoor.anc

namespace Go.Proofs.YtdjleimndolonaaDoor.anc
open Go.RowKit Go.Lib
open Go.Proofs.YtdjleimndolonaaDoor.gmt (Ok five_new check_ok check_no)
open Go.Proofs.YtdjleimndolonaaDoor.pck (num)
open Go.Proofs.YtdjleimndolonaaDoor.lbl (encL readL labE)

theorem parse_any (Z D : Nat) (s l a : Int) (A : Option Addr) (c n : Nat) (b : List UInt8) (w : World) (ho : Ok Z D s l a) (hn : b.length = n) (hA : Sl w w.heap.size A b) (hc : n ≤ c) (hm : c ≤ maxLen) (hl : n ≤ 4294967296) (cR : LabOk w) :
    Calls Tryd.prog 47 #[.agg #[.int .i64 Z, .int .i64 D, .int .i64 s, .int .i64 l, .int .i64 a], .slice A n c] w fun e w' => ParsedA w.heap.size (parsed Z D b) e w' ∧ Below w.heap.size w w' := by
  by_cases h17 : b.length < 17
  · rw [show parsed Z D b = none by unfold parsed; rw [if_pos h17]]
    exact parse_short Z s l a D A c n b w hn hA hc hm hl h17
  · cases hr : readL (b.drop 17) with
    | none =>
      rw [show parsed Z D b = none by unfold parsed; rw [if_neg h17, hr]]
      exact parse_nolab Z s l a D A c n b _ _ w hn hA hc hm hl (unrow_head_yes h17) rfl hr cR
    | some t =>
      have e1 : (b.drop 17).drop (1 + t.length) = b.drop (18 + t.length) := by rw [List.drop_drop]; congr 1; omega
      refine parse_go Z D s l a A c n b _ t _ _ _ _ _ (parsed Z D b) w ho hn hA hc hm hl (unrow_head_yes h17) (by rw [List.length_drop]; omega) hr cR (fun h => ?_) (fun h => ?_)
      · rw [e1] at h
        unfold parsed
        rw [if_neg h17, hr]
        simp only
        rw [if_pos h]
      · rw [e1] at h ⊢
        unfold parsed
        rw [if_neg h17, hr]
        simp only
        rw [if_neg h]
        rfl

set_option maxRecDepth 100000 in
set_option maxHeartbeats 1000000 in
theorem readA_no (z D s l a : Int) (b : Value) (w : World) (hb : ∃ A n c, b = .slice A n c) (ho : ¬ Ok z D s l a) :
    Calls Tryd.prog 29 #[.agg #[.int .i64 z, .int .i64 D, .int .i64 s, .int .i64 l, .int .i64 a], b] w fun e w' => AnsA w.heap.size noAnc 1 e w' ∧ Below w.heap.size w w' := by
  obtain ⟨A, n, c, rfl⟩ := hb
  have cG := fun W => check_no z D s l a W ho
  have GG := g5_new w z D s l a
  have B0 := bl w (.cells #[.int .i64 z, .int .i64 D, .int .i64 s, .int .i64 l, .int .i64 a] 23)
  have L0 : (w.alloc (.cells #[.int .i64 z, .int .i64 D, .int .i64 s, .int .i64 l, .int .i64 a] 23)).heap.size = w.heap.size + 1 := by simp
  have GG1 := GG.keep (bl (w.alloc (.cells #[.int .i64 z, .int .i64 D, .int .i64 s, .int .i64 l, .int .i64 a] 23)) (.cells #[.int .i64 0, .int .i64 0, .int .i64 0, .int .i64 0, .int .i64 0, .string ⟨#[]⟩, .slice none 0 0] 31)) (by omega)
  have Q0 := sev_new (w.alloc (.cells #[.int .i64 z, .int .i64 D, .int .i64 s, .int .i64 l, .int .i64 a] 23)) (.int .i64 0) (.int .i64 0) (.int .i64 0) (.int .i64 0) (.int .i64 0) (.string ⟨#[]⟩) (.slice none 0 0) 31
  have B1 := kal B0 (.cells #[.int .i64 0, .int .i64 0, .int .i64 0, .int .i64 0, .int .i64 0, .string ⟨#[]⟩, .slice none 0 0] 31)
  have L1 : ((w.alloc (.cells #[.int .i64 z, .int .i64 D, .int .i64 s, .int .i64 l, .int .i64 a] 23)).alloc (.cells #[.int .i64 0, .int .i64 0, .int .i64 0, .int .i64 0, .int .i64 0, .string ⟨#[]⟩, .slice none 0 0] 31)).heap.size = w.heap.size + 2 := by simp
  rw [L0] at Q0
  have lw1 : w.heap.size + 2 ≤ ((w.alloc (.cells #[.int .i64 z, .int .i64 D, .int .i64 s, .int .i64 l, .int .i64 a] 23)).alloc (.cells #[.int .i64 0, .int .i64 0, .int .i64 0, .int .i64 0, .int .i64 0, .string ⟨#[]⟩, .slice none 0 0] 31)).heap.size := by omega
  clear GG B0 L0 L1
  go_enter Tryd.func29, Tryd.ntmps29
  go_upto_region 1 with fail
  generalize (w.alloc (.cells #[.int .i64 z, .int .i64 D, .int .i64 s, .int .i64 l, .int .i64 a] 23)).alloc (.cells #[.int .i64 0, .int .i64 0, .int .i64 0, .int .i64 0, .int .i64 0, .string ⟨#[]⟩, .slice none 0 0] 31) = w1 at *
  obtain ⟨g0, g1, g2, g3, g4⟩ := id GG1
  go_upto_region 2 with (go_at_call 30; (with_reducible refine (cG _).mono ?_); rintro e w2 ⟨rfl, hb2⟩)
  have Q := Q0.keep hb2 (by omega)
  have B2 := bt B1 hb2
  clear g0 g1 g2 g3 g4 GG1 Q0 B1 hb2
  obtain ⟨z0, z1, z2, z3, z4, z5, z6, f0, f1, f2, f3, f4, f5, f6⟩ := id Q
  go_wp2_with fail
  have k7 := (((((((Q.set0 (.int .i64 0)).set1 (.int .i64 0)).set2 (.int .i64 0)).set3 (.int .i64 0)).set4 (.int .i64 0)).set5 (.string ⟨#[]⟩)).set6 (.slice none 0 0))
  have hl : w.heap.size ≤ w.heap.size + 1 := by omega
  exact bodyPost_ret (v := .tuple #[.agg #[.int .i64 0, .int .i64 0, .int .i64 0, .int .i64 0, .int .i64 0, .string ⟨#[]⟩, .slice none 0 0], .int .i64 1]) (by simp [results, Tryd.results29, go_sem, k7.c0, k7.c1, k7.c2, k7.c3, k7.c4, k7.c5, k7.c6]) rfl ⟨⟨noAV, rfl, rfl, noAV_own _ _⟩, (((((((B2.setCell hl _).setCell hl _).setCell hl _).setCell hl _).setCell hl _).setCell hl _).setCell hl _)⟩

set_option maxRecDepth 100000 in
set_option maxHeartbeats 4000000 in
theorem read_none (Z D : Nat) (s l a : Int) (A : Option Addr) (c n : Nat) (b : List UInt8) (w : World) (ho : Ok Z D s l a) (hn : b.length = n) (hA : Sl w w.heap.size A b) (hc : n ≤ c) (hm : c ≤ maxLen) (hl : n ≤ 4294967296) (cR : LabOk w) (hp : parsed Z D b = none) :
    Calls Tryd.prog 29 #[.agg #[.int .i64 Z, .int .i64 D, .int .i64 s, .int .i64 l, .int .i64 a], .slice A n c] w fun e w' => AnsA w.heap.size noAnc 4 e w' ∧ Below w.heap.size w w' := by
  have cG := fun W => check_ok Z D s l a W ho
  have cP := fun (W : World) (hW : Below w.heap.size w W) => parse_any Z D s l a A c n b W ho hn (hA.next hW) hc hm hl (fun W' hW' => cR W' (bt hW hW'))
  rw [hp] at cP
  have HP := Lib.hid cP
  clear cP hn hA hc hm hl cR hp
  have GG := g5_new w Z D s l a
  have B0 := bl w (.cells #[.int .i64 Z, .int .i64 D, .int .i64 s, .int .i64 l, .int .i64 a] 23)
  have L0 : (w.alloc (.cells #[.int .i64 Z, .int .i64 D, .int .i64 s, .int .i64 l, .int .i64 a] 23)).heap.size = w.heap.size + 1 := by simp
  have GG1 := GG.keep (bl (w.alloc (.cells #[.int .i64 Z, .int .i64 D, .int .i64 s, .int .i64 l, .int .i64 a] 23)) (.cells #[.int .i64 0, .int .i64 0, .int .i64 0, .int .i64 0, .int .i64 0, .string ⟨#[]⟩, .slice none 0 0] 31)) (by omega)
  have Q0 := sev_new (w.alloc (.cells #[.int .i64 Z, .int .i64 D, .int .i64 s, .int .i64 l, .int .i64 a] 23)) (.int .i64 0) (.int .i64 0) (.int .i64 0) (.int .i64 0) (.int .i64 0) (.string ⟨#[]⟩) (.slice none 0 0) 31
  have B1 := kal B0 (.cells #[.int .i64 0, .int .i64 0, .int .i64 0, .int .i64 0, .int .i64 0, .string ⟨#[]⟩, .slice none 0 0] 31)
  have L1 : ((w.alloc (.cells #[.int .i64 Z, .int .i64 D, .int .i64 s, .int .i64 l, .int .i64 a] 23)).alloc (.cells #[.int .i64 0, .int .i64 0, .int .i64 0, .int .i64 0, .int .i64 0, .string ⟨#[]⟩, .slice none 0 0] 31)).heap.size = w.heap.size + 2 := by simp
  rw [L0] at Q0
  have lw1 : w.heap.size + 2 ≤ ((w.alloc (.cells #[.int .i64 Z, .int .i64 D, .int .i64 s, .int .i64 l, .int .i64 a] 23)).alloc (.cells #[.int .i64 0, .int .i64 0, .int .i64 0, .int .i64 0, .int .i64 0, .string ⟨#[]⟩, .slice none 0 0] 31)).heap.size := by omega
  clear GG B0 L0 L1
  go_enter Tryd.func29, Tryd.ntmps29
  go_upto_region 1 with fail
  generalize (w.alloc (.cells #[.int .i64 Z, .int .i64 D, .int .i64 s, .int .i64 l, .int .i64 a] 23)).alloc (.cells #[.int .i64 0, .int .i64 0, .int .i64 0, .int .i64 0, .int .i64 0, .string ⟨#[]⟩, .slice none 0 0] 31) = w1 at *
  obtain ⟨g0, g1, g2, g3, g4⟩ := id GG1
  go_upto_region 4 with (go_at_call 30; (with_reducible refine (cG _).mono ?_); rintro e w2 ⟨rfl, hb2⟩)
  have Q2 := Q0.keep hb2 (by omega)
  have G2 := GG1.keep hb2 (by omega)
  have B2 := bt B1 hb2
  have l2 : w.heap.size + 2 ≤ w2.heap.size := by have := hb2.size; omega
  clear g0 g1 g2 g3 g4 GG1 Q0 B1 hb2 lw1 cG w1
  obtain ⟨g0, g1, g2, g3, g4⟩ := id G2
  go_upto_region 5 with (go_at_call 47; (with_reducible refine (HP.out _ B2).mono ?_); rintro e w3 ⟨hpa, hb3⟩; obtain rfl : e = .returned (.tuple #[.agg #[.int .i64 0, .int .i64 0, .int .i64 0, .int .i64 0, .int .i64 0, .string ⟨#[]⟩, .slice none 0 0], .slice none 0 0, .int .i64 4]) := hpa)
  have hx := bl w3 (.cells #[.int .i64 0, .int .i64 0, .int .i64 0, .int .i64 0, .int .i64 0, .string ⟨#[]⟩, .slice none 0 0] 31)
  have l3 := hb3.size
  have Q := (Q2.keep hb3 (by omega)).keep hx (by omega)
  have B := bt (bt B2 hb3) hx
  clear g0 g1 g2 g3 g4 G2 Q2 B2 hb3 hx HP l3
  generalize w3.alloc (.cells #[.int .i64 0, .int .i64 0, .int .i64 0, .int .i64 0, .int .i64 0, .string ⟨#[]⟩, .slice none 0 0] 31) = w4 at *
  obtain ⟨z0, z1, z2, z3, z4, z5, z6, f0, f1, f2, f3, f4, f5, f6⟩ := id Q
  go_wp2_with fail
  have k7 := (((((((Q.set0 (.int .i64 0)).set1 (.int .i64 0)).set2 (.int .i64 0)).set3 (.int .i64 0)).set4 (.int .i64 0)).set5 (.string ⟨#[]⟩)).set6 (.slice none 0 0))
  have hl : w.heap.size ≤ w.heap.size + 1 := by omega
  exact bodyPost_ret (v := .tuple #[.agg #[.int .i64 0, .int .i64 0, .int .i64 0, .int .i64 0, .int .i64 0, .string ⟨#[]⟩, .slice none 0 0], .int .i64 4]) (by simp [results, Tryd.results29, go_sem, k7.c0, k7.c1, k7.c2, k7.c3, k7.c4, k7.c5, k7.c6]) rfl ⟨⟨noAV, rfl, rfl, noAV_own _ _⟩, (((((((B.setCell hl _).setCell hl _).setCell hl _).setCell hl _).setCell hl _).setCell hl _).setCell hl _)⟩

set_option maxRecDepth 100000 in
set_option maxHeartbeats 4000000 in
theorem read_rest (Z D : Nat) (s l a : Int) (A : Option Addr) (c n : Nat) (b : List UInt8) (x : Anc) (r : List UInt8) (w : World) (ho : Ok Z D s l a) (hn : b.length = n) (hA : Sl w w.heap.size A b) (hc : n ≤ c) (hm : c ≤ maxLen) (hl : n ≤ 4294967296) (cR : LabOk w) (hp : parsed Z D b = some (x, r)) (hr : 0 < r.length) :
    Calls Tryd.prog 29 #[.agg #[.int .i64 Z, .int .i64 D, .int .i64 s, .int .i64 l, .int .i64 a], .slice A n c] w fun e w' => AnsA w.heap.size noAnc 4 e w' ∧ Below w.heap.size w w' := by
  have cG := fun W => check_ok Z D s l a W ho
  have cP := fun (W : World) (hW : Below w.heap.size w W) => parse_any Z D s l a A c n b W ho hn (hA.next hW) hc hm hl (fun W' hW' => cR W' (bt hW hW'))
  rw [hp] at cP
  have hr' : (0 : Int) < (r.length : Int) := by omega
  have HP := Lib.hid cP
  clear cP hn hA hc hm hl cR hp
  have GG := g5_new w Z D s l a
  have B0 := bl w (.cells #[.int .i64 Z, .int .i64 D, .int .i64 s, .int .i64 l, .int .i64 a] 23)
  have L0 : (w.alloc (.cells #[.int .i64 Z, .int .i64 D, .int .i64 s, .int .i64 l, .int .i64 a] 23)).heap.size = w.heap.size + 1 := by simp
  have GG1 := GG.keep (bl (w.alloc (.cells #[.int .i64 Z, .int .i64 D, .int .i64 s, .int .i64 l, .int .i64 a] 23)) (.cells #[.int .i64 0, .int .i64 0, .int .i64 0, .int .i64 0, .int .i64 0, .string ⟨#[]⟩, .slice none 0 0] 31)) (by omega)
  have Q0 := sev_new (w.alloc (.cells #[.int .i64 Z, .int .i64 D, .int .i64 s, .int .i64 l, .int .i64 a] 23)) (.int .i64 0) (.int .i64 0) (.int .i64 0) (.int .i64 0) (.int .i64 0) (.string ⟨#[]⟩) (.slice none 0 0) 31
  have B1 := kal B0 (.cells #[.int .i64 0, .int .i64 0, .int .i64 0, .int .i64 0, .int .i64 0, .string ⟨#[]⟩, .slice none 0 0] 31)
  have L1 : ((w.alloc (.cells #[.int .i64 Z, .int .i64 D, .int .i64 s, .int .i64 l, .int .i64 a] 23)).alloc (.cells #[.int .i64 0, .int .i64 0, .int .i64 0, .int .i64 0, .int .i64 0, .string ⟨#[]⟩, .slice none 0 0] 31)).heap.size = w.heap.size + 2 := by simp
  rw [L0] at Q0
  have lw1 : w.heap.size + 2 ≤ ((w.alloc (.cells #[.int .i64 Z, .int .i64 D, .int .i64 s, .int .i64 l, .int .i64 a] 23)).alloc (.cells #[.int .i64 0, .int .i64 0, .int .i64 0, .int .i64 0, .int .i64 0, .string ⟨#[]⟩, .slice none 0 0] 31)).heap.size := by omega
  clear GG B0 L0 L1
  go_enter Tryd.func29, Tryd.ntmps29
  go_upto_region 1 with fail
  generalize (w.alloc (.cells #[.int .i64 Z, .int .i64 D, .int .i64 s, .int .i64 l, .int .i64 a] 23)).alloc (.cells #[.int .i64 0, .int .i64 0, .int .i64 0, .int .i64 0, .int .i64 0, .string ⟨#[]⟩, .slice none 0 0] 31) = w1 at *
  obtain ⟨g0, g1, g2, g3, g4⟩ := id GG1
  go_upto_region 4 with (go_at_call 30; (with_reducible refine (cG _).mono ?_); rintro e w2 ⟨rfl, hb2⟩)
  have Q2 := Q0.keep hb2 (by omega)
  have G2 := GG1.keep hb2 (by omega)
  have B2 := bt B1 hb2
  have l2 : w.heap.size + 2 ≤ w2.heap.size := by have := hb2.size; omega
  clear g0 g1 g2 g3 g4 GG1 Q0 B1 hb2 lw1 cG w1
  obtain ⟨g0, g1, g2, g3, g4⟩ := id G2
  go_upto_region 5 with (go_at_call 47; (with_reducible refine (HP.out _ B2).mono ?_); rintro e w3 ⟨hpa, hb3⟩; obtain ⟨y, X3, d3, hey, hyd, hyo⟩ := hpa; rw [AV.v] at hey; subst hey)
  have hx := bl w3 (.cells #[.int .i64 y.gen, .int .i64 y.ep, .int .i64 y.pos, .int .i64 y.seq, .int .i64 y.last, .string y.lab, .slice y.HA y.hs.length y.hc] 31)
  have l3 := hb3.size
  have F := ac_new w3 y
  have Q := (Q2.keep hb3 (by omega)).keep hx (by omega)
  have GG := (G2.keep hb3 (by omega)).keep hx (by omega)
  have B := bt (bt B2 hb3) hx
  have HY := Lib.hid (show y.Own (w3.alloc (.cells #[.int .i64 y.gen, .int .i64 y.ep, .int .i64 y.pos, .int .i64 y.seq, .int .i64 y.last, .string y.lab, .slice y.HA y.hs.length y.hc] 31)) (w.heap.size + 2) from OwnH.less (OwnH.below hyo hx) (show w.heap.size + 2 ≤ w2.heap.size from l2))
  obtain ⟨ga, hga⟩ : ∃ g, g = w3.heap.size := ⟨_, rfl⟩
  rw [← hga] at F ⊢
  have lga : ga < (w3.alloc (.cells #[.int .i64 y.gen, .int .i64 y.ep, .int .i64 y.pos, .int .i64 y.seq, .int .i64 y.last, .string y.lab, .slice y.HA y.hs.length y.hc] 31)).heap.size := by rw [hga]; simp
  have lg2 : w.heap.size + 2 ≤ ga := by omega
  have HYD := Lib.hid hyd
  clear g0 g1 g2 g3 g4 G2 Q2 B2 hb3 hx HP hyo hyd hga l2 l3
  generalize w3.alloc (.cells #[.int .i64 y.gen, .int .i64 y.ep, .int .i64 y.pos, .int .i64 y.seq, .int .i64 y.last, .string y.lab, .slice y.HA y.hs.length y.hc] 31) = w4 at *
  clear F GG HY HYD lga lg2
  obtain ⟨z0, z1, z2, z3, z4, z5, z6, f0, f1, f2, f3, f4, f5, f6⟩ := id Q
  go_wp2_with fail
  have k7 := (((((((Q.set0 (.int .i64 0)).set1 (.int .i64 0)).set2 (.int .i64 0)).set3 (.int .i64 0)).set4 (.int .i64 0)).set5 (.string ⟨#[]⟩)).set6 (.slice none 0 0))
  have hl : w.heap.size ≤ w.heap.size + 1 := by omega
  exact bodyPost_ret (v := .tuple #[.agg #[.int .i64 0, .int .i64 0, .int .i64 0, .int .i64 0, .int .i64 0, .string ⟨#[]⟩, .slice none 0 0], .int .i64 4]) (by simp [results, Tryd.results29, go_sem, k7.c0, k7.c1, k7.c2, k7.c3, k7.c4, k7.c5, k7.c6]) rfl ⟨⟨noAV, rfl, rfl, noAV_own _ _⟩, (((((((B.setCell hl _).setCell hl _).setCell hl _).setCell hl _).setCell hl _).setCell hl _).setCell hl _)⟩

set_option maxRecDepth 100000 in
set_option maxHeartbeats 4000000 in
theorem read_bad (Z D : Nat) (s l a : Int) (A : Option Addr) (c n : Nat) (b : List UInt8) (x : Anc) (w : World) (ho : Ok Z D s l a) (hn : b.length = n) (hA : Sl w w.heap.size A b) (hc : n ≤ c) (hm : c ≤ maxLen) (hl : n ≤ 4294967296) (cR : LabOk w) (hp : parsed Z D b = some (x, [])) (hlab : x.lab.size ≤ 4294967296) (cL : ∀ W, Below w.heap.size w W → ∀ t : ByteArray, t.size ≤ 4294967296 → Calls Tryd.prog 75 #[.string t] W fun e w' => e = .returned (.int .i64 (labE t.data.toList)) ∧ Below W.heap.size W w') (hg : ¬ Good Z D s l x) :
    Calls Tryd.prog 29 #[.agg #[.int .i64 Z, .int .i64 D, .int .i64 s, .int .i64 l, .int .i64 a], .slice A n c] w fun e w' => AnsA w.heap.size noAnc 4 e w' ∧ Below w.heap.size w w' := by
  have cG := fun W => check_ok Z D s l a W ho
  have cP := fun (W : World) (hW : Below w.heap.size w W) => parse_any Z D s l a A c n b W ho hn (hA.next hW) hc hm hl (fun W' hW' => cR W' (bt hW hW'))
  rw [hp] at cP
  have HP := Lib.hid cP
  clear cP hn hA hc hm hl cR hp
  have GG := g5_new w Z D s l a
  have B0 := bl w (.cells #[.int .i64 Z, .int .i64 D, .int .i64 s, .int .i64 l, .int .i64 a] 23)
  have L0 : (w.alloc (.cells #[.int .i64 Z, .int .i64 D, .int .i64 s, .int .i64 l, .int .i64 a] 23)).heap.size = w.heap.size + 1 := by simp
  have GG1 := GG.keep (bl (w.alloc (.cells #[.int .i64 Z, .int .i64 D, .int .i64 s, .int .i64 l, .int .i64 a] 23)) (.cells #[.int .i64 0, .int .i64 0, .int .i64 0, .int .i64 0, .int .i64 0, .string ⟨#[]⟩, .slice none 0 0] 31)) (by omega)
  have Q0 := sev_new (w.alloc (.cells #[.int .i64 Z, .int .i64 D, .int .i64 s, .int .i64 l, .int .i64 a] 23)) (.int .i64 0) (.int .i64 0) (.int .i64 0) (.int .i64 0) (.int .i64 0) (.string ⟨#[]⟩) (.slice none 0 0) 31
  have B1 := kal B0 (.cells #[.int .i64 0, .int .i64 0, .int .i64 0, .int .i64 0, .int .i64 0, .string ⟨#[]⟩, .slice none 0 0] 31)
  have L1 : ((w.alloc (.cells #[.int .i64 Z, .int .i64 D, .int .i64 s, .int .i64 l, .int .i64 a] 23)).alloc (.cells #[.int .i64 0, .int .i64 0, .int .i64 0, .int .i64 0, .int .i64 0, .string ⟨#[]⟩, .slice none 0 0] 31)).heap.size = w.heap.size + 2 := by simp
  rw [L0] at Q0
  have lw1 : w.heap.size + 2 ≤ ((w.alloc (.cells #[.int .i64 Z, .int .i64 D, .int .i64 s, .int .i64 l, .int .i64 a] 23)).alloc (.cells #[.int .i64 0, .int .i64 0, .int .i64 0, .int .i64 0, .int .i64 0, .string ⟨#[]⟩, .slice none 0 0] 31)).heap.size := by omega
  clear GG B0 L0 L1
  go_enter Tryd.func29, Tryd.ntmps29
  go_upto_region 1 with fail
  generalize (w.alloc (.cells #[.int .i64 Z, .int .i64 D, .int .i64 s, .int .i64 l, .int .i64 a] 23)).alloc (.cells #[.int .i64 0, .int .i64 0, .int .i64 0, .int .i64 0, .int .i64 0, .string ⟨#[]⟩, .slice none 0 0] 31) = w1 at *
  obtain ⟨g0, g1, g2, g3, g4⟩ := id GG1
  go_upto_region 4 with (go_at_call 30; (with_reducible refine (cG _).mono ?_); rintro e w2 ⟨rfl, hb2⟩)
  have Q2 := Q0.keep hb2 (by omega)
  have G2 := GG1.keep hb2 (by omega)
  have B2 := bt B1 hb2
  have l2 : w.heap.size + 2 ≤ w2.heap.size := by have := hb2.size; omega
  clear g0 g1 g2 g3 g4 GG1 Q0 B1 hb2 lw1 cG w1
  obtain ⟨g0, g1, g2, g3, g4⟩ := id G2
  go_upto_region 5 with (go_at_call 47; (with_reducible refine (HP.out _ B2).mono ?_); rintro e w3 ⟨hpa, hb3⟩; obtain ⟨y, X3, d3, hey, hyd, hyo⟩ := hpa; rw [AV.v] at hey; subst hey)
  have hx := bl w3 (.cells #[.int .i64 y.gen, .int .i64 y.ep, .int .i64 y.pos, .int .i64 y.seq, .int .i64 y.last, .string y.lab, .slice y.HA y.hs.length y.hc] 31)
  have l3 := hb3.size
  have F := ac_new w3 y
  have Q := (Q2.keep hb3 (by omega)).keep hx (by omega)
  have GG := (G2.keep hb3 (by omega)).keep hx (by omega)
  have B := bt (bt B2 hb3) hx
  have HY := Lib.hid (show y.Own (w3.alloc (.cells #[.int .i64 y.gen, .int .i64 y.ep, .int .i64 y.pos, .int .i64 y.seq, .int .i64 y.last, .string y.lab, .slice y.HA y.hs.length y.hc] 31)) (w.heap.size + 2) from OwnH.less (OwnH.below hyo hx) (show w.heap.size + 2 ≤ w2.heap.size from l2))
  obtain ⟨ga, hga⟩ : ∃ g, g = w3.heap.size := ⟨_, rfl⟩
  rw [← hga] at F ⊢
  have lga : ga < (w3.alloc (.cells #[.int .i64 y.gen, .int .i64 y.ep, .int .i64 y.pos, .int .i64 y.seq, .int .i64 y.last, .string y.lab, .slice y.HA y.hs.length y.hc] 31)).heap.size := by rw [hga]; simp
  have lg2 : w.heap.size + 2 ≤ ga := by omega
  have HYD := Lib.hid hyd
  clear g0 g1 g2 g3 g4 G2 Q2 B2 hb3 hx HP hyo hyd hga l2 l3
  generalize w3.alloc (.cells #[.int .i64 y.gen, .int .i64 y.ep, .int .i64 y.pos, .int .i64 y.seq, .int .i64 y.last, .string y.lab, .slice y.HA y.hs.length y.hc] 31) = w4 at *
  have l4 := lga
  have lb4 : w.heap.size + 2 ≤ w4.heap.size := by omega
  have hin := HY.out.inn
  have cC := fun (W : World) (hW : Below w4.heap.size w4 W) => check_any false Z D s l a (labE y.lab.data.toList) y W ho (hin.next hW) (fun W' hW' => cL W' (bt B (bt hW hW')) y.lab (by have := congrArg Anc.lab HYD.out; rw [show y.lab = x.lab from this]; exact hlab)) (iff_of_false Bool.false_ne_true (by rw [HYD.out]; exact fun h => hg (by have e := congrArg Anc.lab HYD.out; unfold Good; rw [← show y.lab = x.lab from e]; exact h)))
  unfold AV.v at cC
  obtain ⟨g0, g1, g2, g3, g4⟩ := id GG
  obtain ⟨c0, c1, c2, c3, c4, c5, c6⟩ := id F
  have HC := Lib.hid cC
  clear cC hin
  go_upto_region 6 with (go_at_call 48; (with_reducible refine (HC.out _ (Below.refl _ _)).mono ?_); rintro e w5 ⟨rfl, hb5⟩)
  replace Q := Q.keep hb5 (by omega)
  replace B := bt B hb5
  clear g0 g1 g2 g3 g4 c0 c1 c2 c3 c4 c5 c6 F GG HY HYD hb5 HC
  obtain ⟨z0, z1, z2, z3, z4, z5, z6, f0, f1, f2, f3, f4, f5, f6⟩ := id Q
  go_wp2_with fail
  have k7 := (((((((Q.set0 (.int .i64 0)).set1 (.int .i64 0)).set2 (.int .i64 0)).set3 (.int .i64 0)).set4 (.int .i64 0)).set5 (.string ⟨#[]⟩)).set6 (.slice none 0 0))
  have hl : w.heap.size ≤ w.heap.size + 1 := by omega
  exact bodyPost_ret (v := .tuple #[.agg #[.int .i64 0, .int .i64 0, .int .i64 0, .int .i64 0, .int .i64 0, .string ⟨#[]⟩, .slice none 0 0], .int .i64 4]) (by simp [results, Tryd.results29, go_sem, k7.c0, k7.c1, k7.c2, k7.c3, k7.c4, k7.c5, k7.c6]) rfl ⟨⟨noAV, rfl, rfl, noAV_own _ _⟩, (((((((B.setCell hl _).setCell hl _).setCell hl _).setCell hl _).setCell hl _).setCell hl _).setCell hl _)⟩

set_option maxRecDepth 100000 in
set_option maxHeartbeats 4000000 in
theorem read_good (Z D : Nat) (s l a : Int) (A : Option Addr) (c n : Nat) (b : List UInt8) (x : Anc) (w : World) (ho : Ok Z D s l a) (hn : b.length = n) (hA : Sl w w.heap.size A b) (hc : n ≤ c) (hm : c ≤ maxLen) (hl : n ≤ 4294967296) (cR : LabOk w) (hp : parsed Z D b = some (x, [])) (hlab : x.lab.size ≤ 4294967296) (cL : ∀ W, Below w.heap.size w W → ∀ t : ByteArray, t.size ≤ 4294967296 → Calls Tryd.prog 75 #[.string t] W fun e w' => e = .returned (.int .i64 (labE t.data.toList)) ∧ Below W.heap.size W w') (hg : Good Z D s l x) :
    Calls Tryd.prog 29 #[.agg #[.int .i64 Z, .int .i64 D, .int .i64 s, .int .i64 l, .int .i64 a], .slice A n c] w fun e w' => AnsA w.heap.size x 0 e w' ∧ Below w.heap.size w w' := by
  have cG := fun W => check_ok Z D s l a W ho
  have cP := fun (W : World) (hW : Below w.heap.size w W) => parse_any Z D s l a A c n b W ho hn (hA.next hW) hc hm hl (fun W' hW' => cR W' (bt hW hW'))
  rw [hp] at cP
  have HP := Lib.hid cP
  clear cP hn hA hc hm hl cR hp
  have GG := g5_new w Z D s l a
  have B0 := bl w (.cells #[.int .i64 Z, .int .i64 D, .int .i64 s, .int .i64 l, .int .i64 a] 23)
  have L0 : (w.alloc (.cells #[.int .i64 Z, .int .i64 D, .int .i64 s, .int .i64 l, .int .i64 a] 23)).heap.size = w.heap.size + 1 := by simp
  have GG1 := GG.keep (bl (w.alloc (.cells #[.int .i64 Z, .int .i64 D, .int .i64 s, .int .i64 l, .int .i64 a] 23)) (.cells #[.int .i64 0, .int .i64 0, .int .i64 0, .int .i64 0, .int .i64 0, .string ⟨#[]⟩, .slice none 0 0] 31)) (by omega)
  have Q0 := sev_new (w.alloc (.cells #[.int .i64 Z, .int .i64 D, .int .i64 s, .int .i64 l, .int .i64 a] 23)) (.int .i64 0) (.int .i64 0) (.int .i64 0) (.int .i64 0) (.int .i64 0) (.string ⟨#[]⟩) (.slice none 0 0) 31
  have B1 := kal B0 (.cells #[.int .i64 0, .int .i64 0, .int .i64 0, .int .i64 0, .int .i64 0, .string ⟨#[]⟩, .slice none 0 0] 31)
  have L1 : ((w.alloc (.cells #[.int .i64 Z, .int .i64 D, .int .i64 s, .int .i64 l, .int .i64 a] 23)).alloc (.cells #[.int .i64 0, .int .i64 0, .int .i64 0, .int .i64 0, .int .i64 0, .string ⟨#[]⟩, .slice none 0 0] 31)).heap.size = w.heap.size + 2 := by simp
  rw [L0] at Q0
  have lw1 : w.heap.size + 2 ≤ ((w.alloc (.cells #[.int .i64 Z, .int .i64 D, .int .i64 s, .int .i64 l, .int .i64 a] 23)).alloc (.cells #[.int .i64 0, .int .i64 0, .int .i64 0, .int .i64 0, .int .i64 0, .string ⟨#[]⟩, .slice none 0 0] 31)).heap.size := by omega
  clear GG B0 L0 L1
  go_enter Tryd.func29, Tryd.ntmps29
  go_upto_region 1 with fail
  generalize (w.alloc (.cells #[.int .i64 Z, .int .i64 D, .int .i64 s, .int .i64 l, .int .i64 a] 23)).alloc (.cells #[.int .i64 0, .int .i64 0, .int .i64 0, .int .i64 0, .int .i64 0, .string ⟨#[]⟩, .slice none 0 0] 31) = w1 at *
  obtain ⟨g0, g1, g2, g3, g4⟩ := id GG1
  go_upto_region 4 with (go_at_call 30; (with_reducible refine (cG _).mono ?_); rintro e w2 ⟨rfl, hb2⟩)
  have Q2 := Q0.keep hb2 (by omega)
  have G2 := GG1.keep hb2 (by omega)
  have B2 := bt B1 hb2
  have l2 : w.heap.size + 2 ≤ w2.heap.size := by have := hb2.size; omega
  clear g0 g1 g2 g3 g4 GG1 Q0 B1 hb2 lw1 cG w1
  obtain ⟨g0, g1, g2, g3, g4⟩ := id G2
  go_upto_region 5 with (go_at_call 47; (with_reducible refine (HP.out _ B2).mono ?_); rintro e w3 ⟨hpa, hb3⟩; obtain ⟨y, X3, d3, hey, hyd, hyo⟩ := hpa; rw [AV.v] at hey; subst hey)
  have hx := bl w3 (.cells #[.int .i64 y.gen, .int .i64 y.ep, .int .i64 y.pos, .int .i64 y.seq, .int .i64 y.last, .string y.lab, .slice y.HA y.hs.length y.hc] 31)
  have l3 := hb3.size
  have F := ac_new w3 y
  have Q := (Q2.keep hb3 (by omega)).keep hx (by omega)
  have GG := (G2.keep hb3 (by omega)).keep hx (by omega)
  have B := bt (bt B2 hb3) hx
  have HY := Lib.hid (show y.Own (w3.alloc (.cells #[.int .i64 y.gen, .int .i64 y.ep, .int .i64 y.pos, .int .i64 y.seq, .int .i64 y.last, .string y.lab, .slice y.HA y.hs.length y.hc] 31)) (w.heap.size + 2) from OwnH.less (OwnH.below hyo hx) (show w.heap.size + 2 ≤ w2.heap.size from l2))
  obtain ⟨ga, hga⟩ : ∃ g, g = w3.heap.size := ⟨_, rfl⟩
  rw [← hga] at F ⊢
  have lga : ga < (w3.alloc (.cells #[.int .i64 y.gen, .int .i64 y.ep, .int .i64 y.pos, .int .i64 y.seq, .int .i64 y.last, .string y.lab, .slice y.HA y.hs.length y.hc] 31)).heap.size := by rw [hga]; simp
  have lg2 : w.heap.size + 2 ≤ ga := by omega
  have HYD := Lib.hid hyd
  clear g0 g1 g2 g3 g4 G2 Q2 B2 hb3 hx HP hyo hyd hga l2 l3
  generalize w3.alloc (.cells #[.int .i64 y.gen, .int .i64 y.ep, .int .i64 y.pos, .int .i64 y.seq, .int .i64 y.last, .string y.lab, .slice y.HA y.hs.length y.hc] 31) = w4 at *
  have l4 := lga
  have lb4 : w.heap.size + 2 ≤ w4.heap.size := by omega
  have hin := HY.out.inn
  have cC := fun (W : World) (hW : Below w4.heap.size w4 W) => check_any true Z D s l a (labE y.lab.data.toList) y W ho (hin.next hW) (fun W' hW' => cL W' (bt B (bt hW hW')) y.lab (by have := congrArg Anc.lab HYD.out; rw [show y.lab = x.lab from this]; exact hlab)) (iff_of_true rfl (by rw [HYD.out]; have e := congrArg Anc.lab HYD.out; rw [show y.lab = x.lab from e]; exact hg))
  unfold AV.v at cC
  obtain ⟨g0, g1, g2, g3, g4⟩ := id GG
  obtain ⟨c0, c1, c2, c3, c4, c5, c6⟩ := id F
  have HC := Lib.hid cC
  clear cC hin
  go_upto_region 7 with (go_at_call 48; (with_reducible refine (HC.out _ (Below.refl _ _)).mono ?_); rintro e w5 ⟨rfl, hb5⟩)
  replace Q := Q.keep hb5 (by omega)
  replace B := bt B hb5
  replace F := F.keep hb5 l4
  have hyo := OwnH.below HY.out hb5
  clear g0 g1 g2 g3 g4 c0 c1 c2 c3 c4 c5 c6 GG hb5 HC
  obtain ⟨c0, c1, c2, c3, c4, c5, c6⟩ := id F
  obtain ⟨z0, z1, z2, z3, z4, z5, z6, f0, f1, f2, f3, f4, f5, f6⟩ := id Q
  go_wp2_with fail
  have k7 := (((((((Q.set0 (.int .i64 y.gen)).set1 (.int .i64 y.ep)).set2 (.int .i64 y.pos)).set3 (.int .i64 y.seq)).set4 (.int .i64 y.last)).set5 (.string y.lab)).set6 (.slice y.HA y.hs.length y.hc))
  have hgl : w.heap.size + 1 < w.heap.size + 2 := by omega
  have h7 := (((((((hyo.cell_set (o := 0) hgl (.int .i64 y.gen)).cell_set (o := 1) hgl (.int .i64 y.ep)).cell_set (o := 2) hgl (.int .i64 y.pos)).cell_set (o := 3) hgl (.int .i64 y.seq)).cell_set (o := 4) hgl (.int .i64 y.last)).cell_set (o := 5) hgl (.string y.lab)).cell_set (o := 6) hgl (.slice y.HA y.hs.length y.hc))
  have hl : w.heap.size ≤ w.heap.size + 1 := by omega
  exact bodyPost_ret (v := .tuple #[.agg #[.int .i64 y.gen, .int .i64 y.ep, .int .i64 y.pos, .int .i64 y.seq, .int .i64 y.last, .string y.lab, .slice y.HA y.hs.length y.hc], .int .i64 0]) (by simp [results, Tryd.results29, go_sem, k7.c0, k7.c1, k7.c2, k7.c3, k7.c4, k7.c5, k7.c6]) rfl ⟨⟨y, rfl, HYD.out, OwnH.less h7 (by omega)⟩, (((((((B.setCell hl _).setCell hl _).setCell hl _).setCell hl _).setCell hl _).setCell hl _).setCell hl _)⟩

end Go.Proofs.YtdjleimndolonaaDoor.anc
