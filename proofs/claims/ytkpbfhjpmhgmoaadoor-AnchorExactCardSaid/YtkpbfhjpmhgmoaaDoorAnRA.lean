/-
  The document's own reading of an anchor. Conditions: a right geometry, not more bytes than the statements play.
-/
import Derived.Test.YtkpbfhjpmhgmoaaDoorAnU
import Derived.Test.YtkpbfhjpmhgmoaaDoorAnSet
import Derived.Test.YtkpbfhjpmhgmoaaDoorPkD
import Derived.Deep.RegionHeld3
import Derived.Deep.CutRange
import Derived.IntWalk
namespace Go.Proofs.YtkpbfhjpmhgmoaaDoor.anc
open Go.RowKit Go.Lib
open Go.Proofs.YtkpbfhjpmhgmoaaDoor.gmt (Ok five_new)
open Go.Proofs.YtkpbfhjpmhgmoaaDoor.pck (num ref_get)
open Go.Proofs.YtkpbfhjpmhgmoaaDoor.lbl (encL readL labE lab_len RefAns refread_short refread_any)

/-- The document's label at the beginning of bytes: there is one, or none. -/
theorem rlab_some (A : Option Addr) (c m : Nat) (L t : List UInt8) (w : World) (hA : Sl w w.heap.size A L) (hL : L.length = m) (hm : m ≤ c) (hmax : c ≤ maxLen) (h : readL L = some t) :
    Calls Tryd.prog 43 #[.slice A m c] w fun e w' => e = .returned (.tuple #[.string ⟨t.toArray⟩, .int .i64 (1 + (t.length : Int))]) ∧ Below w.heap.size w w' := by
  subst hL
  cases L with
  | nil => cases h
  | cons n r =>
    unfold readL at h
    simp only at h
    split at h
    · cases h
    · split at h
      · rename_i h1 h2
        obtain rfl := Option.some.inj h
        refine (refread_any A c _ n r w hA hm hmax (by omega)).mono ?_
        rintro e w' ⟨S, hS, he, hb⟩
        refine ⟨?_, hb⟩
        rw [he, if_pos h2, ← hS, size_list]
      · cases h
theorem rlab_none (A : Option Addr) (c m : Nat) (L : List UInt8) (w : World) (hA : Sl w w.heap.size A L) (hL : L.length = m) (h0 : 0 < m) (hm : m ≤ c) (hmax : c ≤ maxLen) (h : readL L = none) :
    Calls Tryd.prog 43 #[.slice A m c] w fun e w' => e = .returned (.tuple #[.string ⟨#[]⟩, .int .i64 0]) ∧ Below w.heap.size w w' := by
  subst hL
  cases L with
  | nil => simp at h0
  | cons n r =>
    unfold readL at h
    simp only at h
    split at h
    · rename_i h1
      exact refread_short A c _ n r w hA h1
    · split at h
      · cases h
      · rename_i h1 h2
        refine (refread_any A c _ n r w hA hm hmax (by omega)).mono ?_
        rintro e w' ⟨S, hS, he, hb⟩
        exact ⟨by rw [he, if_neg h2], hb⟩
/-- What the document's reading answers: an anchor of one's own, or none. -/
def RdQ (base : Nat) (x : Anc) (g : Bool) (e : Ending) (w' : World) : Prop := ∃ y : AV, e = .returned (.tuple #[y.v, .bool g]) ∧ y.d = x ∧ y.Own w' base
theorem below7 {B g : Nat} {a W : World} {v0 v1 v2 v3 v4 v5 v6 : Value} (h : Below B a W) (hg : B ≤ g) : Below B a (((((((W.setCell ⟨g, 0, none⟩ v0).setCell ⟨g, 1, none⟩ v1).setCell ⟨g, 2, none⟩ v2).setCell ⟨g, 3, none⟩ v3).setCell ⟨g, 4, none⟩ v4).setCell ⟨g, 5, none⟩ v5).setCell ⟨g, 6, none⟩ v6) := (((((((h.setCell (p := ⟨g, 0, none⟩) hg v0).setCell (p := ⟨g, 1, none⟩) hg v1).setCell (p := ⟨g, 2, none⟩) hg v2).setCell (p := ⟨g, 3, none⟩) hg v3).setCell (p := ⟨g, 4, none⟩) hg v4).setCell (p := ⟨g, 5, none⟩) hg v5).setCell (p := ⟨g, 6, none⟩) hg v6)
set_option maxRecDepth 100000 in
set_option maxHeartbeats 8000000 in
theorem rread_short (Z D s l a : Int) (A : Option Addr) (c n : Nat) (w : World) (hn : n < 18) :
    Calls Tryd.prog 20 #[.agg #[.int .i64 Z, .int .i64 D, .int .i64 s, .int .i64 l, .int .i64 a], .slice A n c] w fun e w' => RdQ w.heap.size noAnc false e w' ∧ Below w.heap.size w w' := by
  have i1 : (n : Int) < 18 := by omega
  have GG := (g5_new w Z D s l a).keep (bl (w.alloc (.cells #[.int .i64 Z, .int .i64 D, .int .i64 s, .int .i64 l, .int .i64 a] 23)) (.cells #[.int .i64 0, .int .i64 0, .int .i64 0, .int .i64 0, .int .i64 0, .string ⟨#[]⟩, .slice none 0 0] 26)) (by simp)
  have PZ := sev_new (w.alloc (.cells #[.int .i64 Z, .int .i64 D, .int .i64 s, .int .i64 l, .int .i64 a] 23)) (.int .i64 0) (.int .i64 0) (.int .i64 0) (.int .i64 0) (.int .i64 0) (.string ⟨#[]⟩) (.slice none 0 0) 26
  rw [show (w.alloc (.cells #[.int .i64 Z, .int .i64 D, .int .i64 s, .int .i64 l, .int .i64 a] 23)).heap.size = w.heap.size + 1 by simp] at PZ
  have hb0 := kal (bl w (.cells #[.int .i64 Z, .int .i64 D, .int .i64 s, .int .i64 l, .int .i64 a] 23)) (.cells #[.int .i64 0, .int .i64 0, .int .i64 0, .int .i64 0, .int .i64 0, .string ⟨#[]⟩, .slice none 0 0] 26)
  have l1 : w.heap.size + 1 < ((w.alloc (.cells #[.int .i64 Z, .int .i64 D, .int .i64 s, .int .i64 l, .int .i64 a] 23)).alloc (.cells #[.int .i64 0, .int .i64 0, .int .i64 0, .int .i64 0, .int .i64 0, .string ⟨#[]⟩, .slice none 0 0] 26)).heap.size := by simp
  go_enter Tryd.func20, Tryd.ntmps20
  go_upto_region 1 with fail
  generalize (w.alloc (.cells #[.int .i64 Z, .int .i64 D, .int .i64 s, .int .i64 l, .int .i64 a] 23)).alloc (.cells #[.int .i64 0, .int .i64 0, .int .i64 0, .int .i64 0, .int .i64 0, .string ⟨#[]⟩, .slice none 0 0] 26) = w0 at *
  obtain ⟨z0, z1, z2, z3, z4, z5, z6, f0, f1, f2, f3, f4, f5, f6⟩ := id PZ
  go_wp2_with fail
  have k7 := (((((((PZ.set0 (.int .i64 0)).set1 (.int .i64 0)).set2 (.int .i64 0)).set3 (.int .i64 0)).set4 (.int .i64 0)).set5 (.string ⟨#[]⟩)).set6 (.slice none 0 0))
  exact bodyPost_ret (v := .tuple #[.agg #[.int .i64 0, .int .i64 0, .int .i64 0, .int .i64 0, .int .i64 0, .string ⟨#[]⟩, .slice none 0 0], .bool false]) (by simp [results, Tryd.results20, go_sem, k7.c0, k7.c1, k7.c2, k7.c3, k7.c4, k7.c5, k7.c6]) rfl ⟨⟨noAV, rfl, rfl, noAV_own _ _⟩, below7 hb0 (by omega)⟩
set_option maxRecDepth 100000 in
set_option maxHeartbeats 8000000 in
theorem rread_lab (Z D s l a : Int) (A : Option Addr) (c n : Nat) (b : List UInt8) (w : World) (hn : b.length = n) (h18 : 18 ≤ n) (hA : Sl w w.heap.size A b) (hm : n ≤ c) (hmax : c ≤ maxLen) (h : readL (b.drop 17) = none) :
    Calls Tryd.prog 20 #[.agg #[.int .i64 Z, .int .i64 D, .int .i64 s, .int .i64 l, .int .i64 a], .slice A n c] w fun e w' => RdQ w.heap.size noAnc false e w' ∧ Below w.heap.size w w' := by
  obtain ⟨bb, off, rfl, hbb, hcb⟩ := id (hA (by omega))
  have hb16 := hcb 16 (by omega)
  unfold by8 at hb16
  have hx16 := b[16].toNat_lt
  have HSL := Lib.hid (show ∀ (k : Nat) (W : World), Below w.heap.size w W → Sl W w.heap.size (some ⟨bb, off + k, none⟩) (b.drop k) from fun k W h => (hA.below h).drop k)
  have cg : ∀ (k : Nat), k ≤ 12 → ∀ W, Below w.heap.size w W → Calls Tryd.prog 26 #[.slice (some ⟨bb, off + k, none⟩) (n - k) (c - k), .int .i64 4] W fun e w' => e = .returned (.int .i64 (num ((b.drop k).take 4))) ∧ W = w' := fun k hk W hW =>
    ref_get 4 (n - k) _ (c - k) _ (b.drop k) W (by omega) (by rw [List.length_drop, hn]) (by omega) (HSL.out k W hW)
  have d0 := cg 0 (by omega)
  have d4 := cg 4 (by omega)
  have d8 := cg 8 (by omega)
  have d12 := cg 12 (by omega)
  simp only [Nat.sub_zero, Nat.add_zero, List.drop_zero] at d0
  have D0 := Lib.hid d0
  have D4 := Lib.hid d4
  have D8 := Lib.hid d8
  have D12 := Lib.hid d12
  clear cg d0 d4 d8 d12 hcb
  unfold maxLen at hmax
  have i1 : ¬ (n : Int) < 18 := by omega
  have i2 : (4 : Int) ≤ (n : Int) := by omega
  have i3 : (8 : Int) ≤ (n : Int) := by omega
  have i4 : (12 : Int) ≤ (n : Int) := by omega
  have i5 : (16 : Int) < (n : Int) := by omega
  have j2 : (4 : Int) ≤ (c : Int) := by omega
  have j3 : (8 : Int) ≤ (c : Int) := by omega
  have j4 : (12 : Int) ≤ (c : Int) := by omega
  have j5 : ¬ c = 4 := by omega
  have j6 : ¬ c = 8 := by omega
  have j7 : ¬ c = 12 := by omega
  have GG := (g5_new w Z D s l a).keep (bl (w.alloc (.cells #[.int .i64 Z, .int .i64 D, .int .i64 s, .int .i64 l, .int .i64 a] 23)) (.cells #[.int .i64 0, .int .i64 0, .int .i64 0, .int .i64 0, .int .i64 0, .string ⟨#[]⟩, .slice none 0 0] 26)) (by simp)
  have PZ := sev_new (w.alloc (.cells #[.int .i64 Z, .int .i64 D, .int .i64 s, .int .i64 l, .int .i64 a] 23)) (.int .i64 0) (.int .i64 0) (.int .i64 0) (.int .i64 0) (.int .i64 0) (.string ⟨#[]⟩) (.slice none 0 0) 26
  rw [show (w.alloc (.cells #[.int .i64 Z, .int .i64 D, .int .i64 s, .int .i64 l, .int .i64 a] 23)).heap.size = w.heap.size + 1 by simp] at PZ
  have hb0 := kal (bl w (.cells #[.int .i64 Z, .int .i64 D, .int .i64 s, .int .i64 l, .int .i64 a] 23)) (.cells #[.int .i64 0, .int .i64 0, .int .i64 0, .int .i64 0, .int .i64 0, .string ⟨#[]⟩, .slice none 0 0] 26)
  have l1 : w.heap.size + 1 < ((w.alloc (.cells #[.int .i64 Z, .int .i64 D, .int .i64 s, .int .i64 l, .int .i64 a] 23)).alloc (.cells #[.int .i64 0, .int .i64 0, .int .i64 0, .int .i64 0, .int .i64 0, .string ⟨#[]⟩, .slice none 0 0] 26)).heap.size := by simp
  go_enter Tryd.func20, Tryd.ntmps20
  go_upto_region 1 with fail
  generalize (w.alloc (.cells #[.int .i64 Z, .int .i64 D, .int .i64 s, .int .i64 l, .int .i64 a] 23)).alloc (.cells #[.int .i64 0, .int .i64 0, .int .i64 0, .int .i64 0, .int .i64 0, .string ⟨#[]⟩, .slice none 0 0] 26) = w0 at *
  go_upto_region 3 with fail
  go_cut [6] from 17 to 33 (fun v wx => v = .pointer (some ⟨w0.heap.size, 0, none⟩) ∧ Sev wx w0.heap.size (.int .i64 (num (b.take 4))) (.int .i64 (num ((b.drop 4).take 4))) (.int .i64 (b[16].toNat : Int)) (.int .i64 (num ((b.drop 8).take 4))) (.int .i64 (num ((b.drop 12).take 4))) (.string ⟨#[]⟩) (.slice none 0 0) ∧ Below w0.heap.size w0 wx ∧ w0.heap.size < wx.heap.size)
  case first =>
      have hc16 := kst hb0 hbb hb16
      have lb : bb < w0.heap.size := Nat.lt_trans hbb (Nat.lt_of_succ_lt l1)
      have HF := Lib.hid (show ∀ W, Below w0.heap.size w0 W → W.cell? ⟨bb, off + 16, none⟩ = some (.int .u8 (b[16].toNat : Int)) ∧ Below w0.heap.size w0 W from fun W h => ⟨kst h lb hc16, h⟩)
      have wb : IntKind.i64.wrap (b[16].toNat : Int) = (b[16].toNat : Int) := IntWalk.i64_in _ (by omega)
      have PN := (sev_new w0 (.int .i64 0) (.int .i64 0) (.int .i64 0) (.int .i64 0) (.int .i64 0) (.string ⟨#[]⟩) (.slice none 0 0) 26).keep (B := w0.heap.size + 1) (below_dr (Below.refl _ _)) (by omega)
      obtain ⟨y0, y1, y2, y3, y4, y5, y6, k0, k1, k2, k3, k4, k5, k6⟩ := id PN
      go_region_held3 (fun W => W.cell? ⟨bb, off + 16, none⟩ = some (.int .u8 (b[16].toNat : Int)) ∧ Below w0.heap.size w0 W)
        ((refine HF.out _ ?_; first
          | with_reducible exact kal (below_dr (Below.refl _ _)) _
          | with_reducible exact below_dr (bl w0 _)
          | with_reducible exact bl w0 _
          | with_reducible exact below_dr (Below.refl _ _)
          | with_reducible exact Below.refl _ _
          | fail))
        (first
          | (go_at_call 26; (with_reducible refine (D0.out _ (bt hb0 (below_dr (Below.refl _ _)))).mono ?_); rintro e wq ⟨rfl, rfl⟩)
          | (go_at_call 26; (with_reducible refine (D0.out _ (bt hb0 (below_dr (bl w0 _)))).mono ?_); rintro e wq ⟨rfl, rfl⟩)
          | (go_at_call 26; (with_reducible refine (D4.out _ (bt hb0 (below_dr (Below.refl _ _)))).mono ?_); rintro e wq ⟨rfl, rfl⟩)
          | (go_at_call 26; (with_reducible refine (D4.out _ (bt hb0 (below_dr (bl w0 _)))).mono ?_); rintro e wq ⟨rfl, rfl⟩)
          | (go_at_call 26; (with_reducible refine (D8.out _ (bt hb0 (below_dr (Below.refl _ _)))).mono ?_); rintro e wq ⟨rfl, rfl⟩)
          | (go_at_call 26; (with_reducible refine (D8.out _ (bt hb0 (below_dr (bl w0 _)))).mono ?_); rintro e wq ⟨rfl, rfl⟩)
          | (go_at_call 26; (with_reducible refine (D12.out _ (bt hb0 (below_dr (Below.refl _ _)))).mono ?_); rintro e wq ⟨rfl, rfl⟩)
          | (go_at_call 26; (with_reducible refine (D12.out _ (bt hb0 (below_dr (bl w0 _)))).mono ?_); rintro e wq ⟨rfl, rfl⟩)
          | fail)
      all_goals (go_wp2_with fail; go_meet)
      all_goals exact ⟨rfl, (sev_new w0 _ _ _ _ _ _ _ _).keep (B := w0.heap.size + 1) (below_dr (Below.refl _ _)) (by omega), below_dr (bl w0 _), by simp⟩
  case rest =>
    obtain ⟨w2, rfl⟩ : ∃ x, x = wc := ⟨wc, rfl⟩
    obtain ⟨rfl, SN, hb2, l2⟩ := hcut
    have hb02 := bt hb0 hb2
    have GG2 := GG.keep hb2 (by omega)
    have PZ2 := PZ.keep hb2 l1
    clear GG PZ D0 D4 D8 D12
    have HRL := Lib.hid (rlab_none (some ⟨bb, off + 17, none⟩) (c - 17) (n - 17) (b.drop 17) w2 ((HSL.out 17 _ hb02).more hb02.size) (by rw [List.length_drop, hn]) (by omega) (by omega) (by unfold maxLen; omega) h)
    obtain ⟨z0, z1, z2, z3, z4, z5, z6, f0, f1, f2, f3, f4, f5, f6⟩ := id PZ2
    have r1 : (17 : Int) ≤ (n : Int) := by omega
    have r2 : (17 : Int) ≤ (c : Int) := by omega
    have r3 : ¬ c = 17 := by omega
    clear h i2 i3 i4 i5 j2 j3 j4 j5 j6 j7
    go_wp2_with (go_at_call 43; (with_reducible refine HRL.out.mono ?_); rintro e w3 ⟨rfl, hb3⟩; replace PZ2 := PZ2.keep hb3 (by omega); clear z0 z1 z2 z3 z4 z5 z6 f0 f1 f2 f3 f4 f5 f6; obtain ⟨z0, z1, z2, z3, z4, z5, z6, f0, f1, f2, f3, f4, f5, f6⟩ := id PZ2)
    have k7 := (((((((PZ2.set0 (.int .i64 0)).set1 (.int .i64 0)).set2 (.int .i64 0)).set3 (.int .i64 0)).set4 (.int .i64 0)).set5 (.string ⟨#[]⟩)).set6 (.slice none 0 0))
    exact bodyPost_ret (v := .tuple #[.agg #[.int .i64 0, .int .i64 0, .int .i64 0, .int .i64 0, .int .i64 0, .string ⟨#[]⟩, .slice none 0 0], .bool false]) (by simp [results, Tryd.results20, go_sem, k7.c0, k7.c1, k7.c2, k7.c3, k7.c4, k7.c5, k7.c6]) rfl ⟨⟨noAV, rfl, rfl, noAV_own _ _⟩, below7 (bt hb02 hb3) (by omega)⟩
set_option maxRecDepth 100000 in
set_option maxHeartbeats 8000000 in
theorem rread_len (Z D : Nat) (s l a : Int) (A : Option Addr) (c n : Nat) (b : List UInt8) (w : World) (hn : b.length = n) (h18 : 18 ≤ n) (hA : Sl w w.heap.size A b) (hm : n ≤ c) (hmax : c ≤ maxLen) (t : List UInt8) (h : readL (b.drop 17) = some t) (ho : Ok Z D s l a) (hl : (b.drop (18 + t.length)).length ≠ Z * (D + 6)) :
    Calls Tryd.prog 20 #[.agg #[.int .i64 Z, .int .i64 D, .int .i64 s, .int .i64 l, .int .i64 a], .slice A n c] w fun e w' => RdQ w.heap.size noAnc false e w' ∧ Below w.heap.size w w' := by
  obtain ⟨bb, off, rfl, hbb, hcb⟩ := id (hA (by omega))
  have hb16 := hcb 16 (by omega)
  unfold by8 at hb16
  have hx16 := b[16].toNat_lt
  have HSL := Lib.hid (show ∀ (k : Nat) (W : World), Below w.heap.size w W → Sl W w.heap.size (some ⟨bb, off + k, none⟩) (b.drop k) from fun k W h => (hA.below h).drop k)
  have cg : ∀ (k : Nat), k ≤ 12 → ∀ W, Below w.heap.size w W → Calls Tryd.prog 26 #[.slice (some ⟨bb, off + k, none⟩) (n - k) (c - k), .int .i64 4] W fun e w' => e = .returned (.int .i64 (num ((b.drop k).take 4))) ∧ W = w' := fun k hk W hW =>
    ref_get 4 (n - k) _ (c - k) _ (b.drop k) W (by omega) (by rw [List.length_drop, hn]) (by omega) (HSL.out k W hW)
  have d0 := cg 0 (by omega)
  have d4 := cg 4 (by omega)
  have d8 := cg 8 (by omega)
  have d12 := cg 12 (by omega)
  simp only [Nat.sub_zero, Nat.add_zero, List.drop_zero] at d0
  have D0 := Lib.hid d0
  have D4 := Lib.hid d4
  have D8 := Lib.hid d8
  have D12 := Lib.hid d12
  clear cg d0 d4 d8 d12 hcb
  unfold maxLen at hmax
  have i1 : ¬ (n : Int) < 18 := by omega
  have i2 : (4 : Int) ≤ (n : Int) := by omega
  have i3 : (8 : Int) ≤ (n : Int) := by omega
  have i4 : (12 : Int) ≤ (n : Int) := by omega
  have i5 : (16 : Int) < (n : Int) := by omega
  have j2 : (4 : Int) ≤ (c : Int) := by omega
  have j3 : (8 : Int) ≤ (c : Int) := by omega
  have j4 : (12 : Int) ≤ (c : Int) := by omega
  have j5 : ¬ c = 4 := by omega
  have j6 : ¬ c = 8 := by omega
  have j7 : ¬ c = 12 := by omega
  have GG := (g5_new w Z D s l a).keep (bl (w.alloc (.cells #[.int .i64 Z, .int .i64 D, .int .i64 s, .int .i64 l, .int .i64 a] 23)) (.cells #[.int .i64 0, .int .i64 0, .int .i64 0, .int .i64 0, .int .i64 0, .string ⟨#[]⟩, .slice none 0 0] 26)) (by simp)
  have PZ := sev_new (w.alloc (.cells #[.int .i64 Z, .int .i64 D, .int .i64 s, .int .i64 l, .int .i64 a] 23)) (.int .i64 0) (.int .i64 0) (.int .i64 0) (.int .i64 0) (.int .i64 0) (.string ⟨#[]⟩) (.slice none 0 0) 26
  rw [show (w.alloc (.cells #[.int .i64 Z, .int .i64 D, .int .i64 s, .int .i64 l, .int .i64 a] 23)).heap.size = w.heap.size + 1 by simp] at PZ
  have hb0 := kal (bl w (.cells #[.int .i64 Z, .int .i64 D, .int .i64 s, .int .i64 l, .int .i64 a] 23)) (.cells #[.int .i64 0, .int .i64 0, .int .i64 0, .int .i64 0, .int .i64 0, .string ⟨#[]⟩, .slice none 0 0] 26)
  have l1 : w.heap.size + 1 < ((w.alloc (.cells #[.int .i64 Z, .int .i64 D, .int .i64 s, .int .i64 l, .int .i64 a] 23)).alloc (.cells #[.int .i64 0, .int .i64 0, .int .i64 0, .int .i64 0, .int .i64 0, .string ⟨#[]⟩, .slice none 0 0] 26)).heap.size := by simp
  go_enter Tryd.func20, Tryd.ntmps20
  go_upto_region 1 with fail
  generalize (w.alloc (.cells #[.int .i64 Z, .int .i64 D, .int .i64 s, .int .i64 l, .int .i64 a] 23)).alloc (.cells #[.int .i64 0, .int .i64 0, .int .i64 0, .int .i64 0, .int .i64 0, .string ⟨#[]⟩, .slice none 0 0] 26) = w0 at *
  go_upto_region 3 with fail
  go_cut [6] from 17 to 33 (fun v wx => v = .pointer (some ⟨w0.heap.size, 0, none⟩) ∧ Sev wx w0.heap.size (.int .i64 (num (b.take 4))) (.int .i64 (num ((b.drop 4).take 4))) (.int .i64 (b[16].toNat : Int)) (.int .i64 (num ((b.drop 8).take 4))) (.int .i64 (num ((b.drop 12).take 4))) (.string ⟨#[]⟩) (.slice none 0 0) ∧ Below w0.heap.size w0 wx ∧ w0.heap.size < wx.heap.size)
  case first =>
      have hc16 := kst hb0 hbb hb16
      have lb : bb < w0.heap.size := Nat.lt_trans hbb (Nat.lt_of_succ_lt l1)
      have HF := Lib.hid (show ∀ W, Below w0.heap.size w0 W → W.cell? ⟨bb, off + 16, none⟩ = some (.int .u8 (b[16].toNat : Int)) ∧ Below w0.heap.size w0 W from fun W h => ⟨kst h lb hc16, h⟩)
      have wb : IntKind.i64.wrap (b[16].toNat : Int) = (b[16].toNat : Int) := IntWalk.i64_in _ (by omega)
      have PN := (sev_new w0 (.int .i64 0) (.int .i64 0) (.int .i64 0) (.int .i64 0) (.int .i64 0) (.string ⟨#[]⟩) (.slice none 0 0) 26).keep (B := w0.heap.size + 1) (below_dr (Below.refl _ _)) (by omega)
      obtain ⟨y0, y1, y2, y3, y4, y5, y6, k0, k1, k2, k3, k4, k5, k6⟩ := id PN
      go_region_held3 (fun W => W.cell? ⟨bb, off + 16, none⟩ = some (.int .u8 (b[16].toNat : Int)) ∧ Below w0.heap.size w0 W)
        ((refine HF.out _ ?_; first
          | with_reducible exact kal (below_dr (Below.refl _ _)) _
          | with_reducible exact below_dr (bl w0 _)
          | with_reducible exact bl w0 _
          | with_reducible exact below_dr (Below.refl _ _)
          | with_reducible exact Below.refl _ _
          | fail))
        (first
          | (go_at_call 26; (with_reducible refine (D0.out _ (bt hb0 (below_dr (Below.refl _ _)))).mono ?_); rintro e wq ⟨rfl, rfl⟩)
          | (go_at_call 26; (with_reducible refine (D0.out _ (bt hb0 (below_dr (bl w0 _)))).mono ?_); rintro e wq ⟨rfl, rfl⟩)
          | (go_at_call 26; (with_reducible refine (D4.out _ (bt hb0 (below_dr (Below.refl _ _)))).mono ?_); rintro e wq ⟨rfl, rfl⟩)
          | (go_at_call 26; (with_reducible refine (D4.out _ (bt hb0 (below_dr (bl w0 _)))).mono ?_); rintro e wq ⟨rfl, rfl⟩)
          | (go_at_call 26; (with_reducible refine (D8.out _ (bt hb0 (below_dr (Below.refl _ _)))).mono ?_); rintro e wq ⟨rfl, rfl⟩)
          | (go_at_call 26; (with_reducible refine (D8.out _ (bt hb0 (below_dr (bl w0 _)))).mono ?_); rintro e wq ⟨rfl, rfl⟩)
          | (go_at_call 26; (with_reducible refine (D12.out _ (bt hb0 (below_dr (Below.refl _ _)))).mono ?_); rintro e wq ⟨rfl, rfl⟩)
          | (go_at_call 26; (with_reducible refine (D12.out _ (bt hb0 (below_dr (bl w0 _)))).mono ?_); rintro e wq ⟨rfl, rfl⟩)
          | fail)
      all_goals (go_wp2_with fail; go_meet)
      all_goals exact ⟨rfl, (sev_new w0 _ _ _ _ _ _ _ _).keep (B := w0.heap.size + 1) (below_dr (Below.refl _ _)) (by omega), below_dr (bl w0 _), by simp⟩
  case rest =>
    obtain ⟨w2, rfl⟩ : ∃ x, x = wc := ⟨wc, rfl⟩
    obtain ⟨rfl, SN, hb2, l2⟩ := hcut
    have hb02 := bt hb0 hb2
    have GG2 := GG.keep hb2 (by omega)
    have PZ2 := PZ.keep hb2 l1
    clear GG PZ D0 D4 D8 D12
    have hsd := readL_sound h
    have htl : t.length + 18 ≤ n := by have h1 := hsd.2.2; rw [List.length_drop, hn] at h1; omega
    have HRL := Lib.hid (rlab_some (some ⟨bb, off + 17, none⟩) (c - 17) (n - 17) (b.drop 17) t w2 ((HSL.out 17 _ hb02).more hb02.size) (by rw [List.length_drop, hn]) (by omega) (by unfold maxLen; omega) h)
    have r1 : (17 : Int) ≤ (n : Int) := by omega
    have r2 : (17 : Int) ≤ (c : Int) := by omega
    have r3 : ¬ c = 17 := by omega
    clear h hsd i2 i3 i4 i5 j2 j3 j4 j5 j6 j7
    go_upto_region 5 with (go_at_call 43; (with_reducible refine HRL.out.mono ?_); rintro e w3 ⟨rfl, hb3⟩)
    replace PZ2 := PZ2.keep hb3 (by omega)
    replace GG2 := GG2.keep hb3 (by omega)
    replace SN := SN.keep hb3 l2
    replace hb2 := hb2.trans (hb3.mono (Nat.le_of_lt l2))
    replace hb02 := bt hb02 hb3
    replace l2 := Nat.lt_of_lt_of_le l2 hb3.size
    have HSR := Lib.hid (HSL.out (18 + t.length) w3 hb02)
    clear HRL hb3 HSL
    go_cut [9] from 39 to 43 (fun v wx => ∃ (AR : Option Addr) (cR : Nat), v = .slice AR (n - (18 + t.length)) cR ∧ n - (18 + t.length) ≤ cR ∧ cR ≤ c ∧ Sl w3 w.heap.size AR (b.drop (18 + t.length)) ∧ w3 = wx)
    case first =>
      have q1 : (17 : Int) + (1 + (t.length : Int)) ≤ (n : Int) := by omega
      have q2 : (17 : Int) + (1 + (t.length : Int)) ≤ (c : Int) := by omega
      have q3 : ((17 : Int) + (1 + (t.length : Int))).toNat = 18 + t.length := by omega
      have q4 : (0 : Int) ≤ (17 : Int) + (1 + (t.length : Int)) := by omega
      by_cases hc : c = 18 + t.length
      · subst hc
        go_wp2_with fail
        go_meet
        exact ⟨some ⟨bb, off, none⟩, 0, by rw [show n - (18 + t.length) = 0 by omega], by omega, by omega, by rw [List.drop_eq_nil_of_le (by omega)]; exact Sl.nil _ _ _, rfl⟩
      · go_wp2_with fail
        go_meet
        exact ⟨_, _, rfl, by omega, by omega, HSR.out, rfl⟩
    case rest =>
      obtain ⟨AR, cR, rfl, hcR, hcc, SR, rfl⟩ := hcut
      clear HSR
      obtain ⟨o1, o2, -⟩ := id ho
      obtain ⟨g0, g1, -, -, -⟩ := id GG2
      have p1 : ((1 : Int) + (t.length : Int) == 0) = false := beq_eq_false_iff_ne.2 (by omega)
      have pz : (0 : Int) ≤ (Z : Int) * ((D : Int) + 6) := Int.mul_nonneg (by omega) (by omega)
      have pz2 : (Z : Int) * ((D : Int) + 6) ≤ 40 := by
        have := Int.mul_le_mul (show (Z : Int) ≤ 4 by omega) (show (D : Int) + 6 ≤ 10 by omega) (by omega) (by omega)
        omega
      have p3 : (((n - (18 + t.length) : Nat) : Int) != (Z : Int) * ((D : Int) + 6)) = true := by
        rw [List.length_drop, hn] at hl
        have h1 : ((n - (18 + t.length) : Nat) : Int) ≠ ((Z * (D + 6) : Nat) : Int) := fun h => hl (by omega)
        rw [Int.natCast_mul, Int.natCast_add] at h1
        exact bne_iff_ne.2 h1
      obtain ⟨z0, z1, z2, z3, z4, z5, z6, f0, f1, f2, f3, f4, f5, f6⟩ := id PZ2
      clear hl ho
      go_wp2_with fail
      have k7 := (((((((PZ2.set0 (.int .i64 0)).set1 (.int .i64 0)).set2 (.int .i64 0)).set3 (.int .i64 0)).set4 (.int .i64 0)).set5 (.string ⟨#[]⟩)).set6 (.slice none 0 0))
      exact bodyPost_ret (v := .tuple #[.agg #[.int .i64 0, .int .i64 0, .int .i64 0, .int .i64 0, .int .i64 0, .string ⟨#[]⟩, .slice none 0 0], .bool false]) (by simp [results, Tryd.results20, go_sem, k7.c0, k7.c1, k7.c2, k7.c3, k7.c4, k7.c5, k7.c6]) rfl ⟨⟨noAV, rfl, rfl, noAV_own _ _⟩, below7 hb02 (by omega)⟩
end Go.Proofs.YtkpbfhjpmhgmoaaDoor.anc
