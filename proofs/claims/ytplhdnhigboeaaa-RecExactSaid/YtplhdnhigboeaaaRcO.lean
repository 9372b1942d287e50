/-
  The document's own reader of a record (ReadRec). Conditions: a right geometry.
-/
import Derived.Laws.Tables
import Derived.Laws.CopyOwn
import Derived.Test.YtplhdnhigboeaaaRcLB
import Derived.Test.YtplhdnhigboeaaaRcT
import Derived.Test.YtplhdnhigboeaaaTail
import Derived.Test.YtplhdnhigboeaaaGPk
namespace Go.Proofs.Ytplhdnhigboeaaa.lrc
open Go.RowKit Go.Lib
open Go.Proofs.Ytplhdnhigboeaaa.gmt (Ok)
open Go.Proofs.Ytplhdnhigboeaaa.anc (bl kal kst ks bm ka)
open Go.Proofs.Ytplhdnhigboeaaa.tbl (C1 c1_new G5 g5_new)
open Go.Proofs.Ytplhdnhigboeaaa.img
open Go.Proofs.Ytplhdnhigboeaaa.pck (le le_length num)

theorem blk_next {W W' : World} {v : Obj} {k : Nat} (hb : Below W.heap.size W W') (h : W.heap[k]? = some v) : W'.heap[k]? = some v := (hb.block k (Array.getElem?_eq_some_iff.1 h).1).trans h
theorem at1_get {b : List UInt8} {k : Nat} (h : k < b.length) : at1 b k = (b[k]'h).toNat := by
  unfold at1
  rw [List.drop_eq_getElem_cons h, List.take_succ_cons, List.take_zero, num, num]
  omega
/-- What the document's reader answers. -/
def RdA (c : Bool) (r : Rcd) (e : Ending) (w' : World) : Prop :=
  (c = true ∧ ∃ (X : Option Addr) (x : Nat), e = .returned (.tuple #[.agg #[.int .i64 r.kd, .int .i64 r.sq, .int .i64 r.ep, .int .i64 r.ps, .int .i64 r.nm, .int .i64 r.z, .int .i64 r.wh, .slice X r.l.length x], .bool true]) ∧ BIn w' w'.heap.size ⟨r.z, r.wh, X, x, r.l⟩) ∨ (c = false ∧ e = .returned (.tuple #[.agg #[.int .i64 0, .int .i64 0, .int .i64 0, .int .i64 0, .int .i64 0, .int .i64 0, .int .i64 0, .slice none 0 0], .bool false]))
/-- The two results of ReadRec: the first in a box. -/
theorem ret21 {R : Ending → World → Prop} {a : Act} {w : World} (g : Nat) (cs : Array Value) (v : Value) (t : TypeId) (hd : a.defers = []) (h4 : a.tmps.getD 4 undef = .pointer (some ⟨g, 0, none⟩)) (h5 : a.tmps.getD 5 undef = v) (hs : cs.size = 8) (hg : w.heap[g]? = some (.cells cs t (0, 0))) (h : R (.returned (.tuple #[.agg cs, v])) w) :
    bodyPost Try.prog Try.f21 R .ret a w := by
  refine bodyPost_ret (v := .tuple #[.agg cs, v]) ?_ hd h
  rw [results_cell_tmp (p := 4) (u := 5) (ty := 28) rfl, h4, h5]
  have hl := run_loadVar_row (P := Try.prog) w g t 28 cs (0, 0) _ hg Try.underlying28 rfl (by rw [hs]; kernel_rfl)
  simp [asAddr, hl]
theorem f8_row {W : World} {g : Nat} {a0 a1 a2 a3 a4 a5 a6 a7 : Value} {t : TypeId} (h : W.heap[g]? = some (.cells #[a0, a1, a2, a3, a4, a5, a6, a7] t (0, 0))) : F8 W g a0 a1 a2 a3 a4 a5 a6 a7 := by
  refine ⟨?_, fun o => frozen_of_row W g o _ t h⟩
  constructor <;> (rw [cell_of_row _ _ _ _ _ _ h]; rfl)
theorem rrec_k (c : Bool) (z d s l a : Int) (k sq ep ps nm y wh : Int) (X : Option Addr) (xc : Nat) (L : List UInt8) (q : Nat) (w : World) (ho : Ok z d s l a) (hx : BIn w w.heap.size ⟨y, wh, X, xc, L⟩) (hn : L.length = q) (hn1 : q ≤ 1048576) (hc : c = true ↔ RecOk z d ⟨k, sq, ep, ps, nm, y, wh, L⟩) :
    Calls Try.prog 25 #[.agg #[.int .i64 z, .int .i64 d, .int .i64 s, .int .i64 l, .int .i64 a], .agg #[.int .i64 k, .int .i64 sq, .int .i64 ep, .int .i64 ps, .int .i64 nm, .int .i64 y, .int .i64 wh, .slice X q xc]] w fun e w' => e = .returned (.bool c) ∧ Below w.heap.size w w' :=
  rrec_c c z d s l a ⟨k, sq, ep, ps, nm, ⟨y, wh, X, xc, L⟩⟩ q w ho hx hn hn1 hc
theorem own_q5 {w : World} {base q : Nat} {e : TypeId} {v : Value} {l : List UInt8} (h : Own w base e v l) (hq : l.length = q) : ∃ X c, v = .slice X q c ∧ Own w base e (.slice X q c) l := by
  obtain ⟨A, c, rfl, -⟩ := h.form
  rw [hq] at h ⊢
  exact ⟨A, c, rfl, h⟩
theorem own_bin {W : World} {base n c : Nat} {X : Option Addr} {e : TypeId} {l : List UInt8} (h : Own W base e (.slice X n c) l) (z wh : Int) : BIn W W.heap.size ⟨z, wh, X, c, l⟩ := by
  obtain ⟨h1, h2, h3, h4⟩ := own_bytes h
  exact ⟨h4, by rw [h1]; exact h2, h3⟩
theorem own_row {W : World} {base k : Nat} {e : TypeId} {v : Value} {l : List UInt8} (h : Own W base e v l) (hk : k < base) (cs : Array Value) : Own (W.setRow k cs) base e v l :=
  h.kept (row := some k) ⟨rfl, rfl, rfl, by simp, fun q _ hq => setRow_other W k q cs (fun e => hq (by rw [e]))⟩ (.inr fun he => absurd (pck.own_far h k he) (by omega))
theorem row_set {W : World} {k g o : Nat} {v : Obj} (u : Value) (h : W.heap[k]? = some v) (hne : k ≠ g) : (W.setCell ⟨g, o, none⟩ u).heap[k]? = some v := (heap_setCell_other W ⟨g, o, none⟩ k u hne).trans h
theorem own_set {W : World} {base g o : Nat} {e : TypeId} {v : Value} {l : List UInt8} (h : Own W base e v l) (hg : g < base) (u : Value) : Own (W.setCell ⟨g, o, none⟩ u) base e v l :=
  h.kept (row := some g) ⟨by first | rfl | simp, by first | rfl | simp, by first | rfl | simp, by rw [World.size_setCell]; exact Nat.le_refl _, fun k _ hk => heap_setCell_other W ⟨g, o, none⟩ k u (fun q => hk (by rw [q]))⟩ (.inr fun he => absurd (pck.own_far h g he) (by omega))
set_option maxRecDepth 100000 in
set_option maxHeartbeats 8000000 in
theorem rread_short (z d s l a : Int) (A : Option Addr) (n cp : Nat) (r : Rcd) (w : World) (hn : n < 11) :
    Calls Try.prog 21 #[.agg #[.int .i64 z, .int .i64 d, .int .i64 s, .int .i64 l, .int .i64 a], .slice A n cp] w fun e w' => RdA false r e w' ∧ Below w.heap.size w w' := by
  have i1 : (n : Int) < 11 := by omega
  go_enter Try.func21, Try.ntmps21
  go_wp2_with fail
  refine ret21 (w.heap.size + 1) #[.int .i64 0, .int .i64 0, .int .i64 0, .int .i64 0, .int .i64 0, .int .i64 0, .int .i64 0, .slice none 0 0] (.bool false) 28 rfl rfl rfl rfl ?_ ⟨.inr ⟨rfl, rfl⟩, kal (bl w _) _⟩
  exact heap_alloc2_new w _ _
set_option maxRecDepth 100000 in
set_option maxHeartbeats 8000000 in
theorem rread_long (c : Bool) (z d s l a : Int) (g off n cp : Nat) (b : List UInt8) (w : World) (ho : Ok z d s l a) (hb : b.length = n) (hn : 11 ≤ n) (hcap : n ≤ cp ∧ cp ≤ maxLen) (hn2 : n ≤ 1048576) (hA : Sl w w.heap.size (some ⟨g, off, none⟩) b) (hc : c = true ↔ RdOk z d b) :
    Calls Try.prog 21 #[.agg #[.int .i64 z, .int .i64 d, .int .i64 s, .int .i64 l, .int .i64 a], .slice (some ⟨g, off, none⟩) n cp] w fun e w' => RdA c (recN b) e w' ∧ Below w.heap.size w w' := by
  have i1 : ¬ (n : Int) < 11 := by omega
  have s1 : (w.alloc (.cells #[.int .i64 z, .int .i64 d, .int .i64 s, .int .i64 l, .int .i64 a] 23)).heap.size = w.heap.size + 1 := by simp
  have GG : G5 ((w.alloc (.cells #[.int .i64 z, .int .i64 d, .int .i64 s, .int .i64 l, .int .i64 a] 23)).alloc (.cells #[.int .i64 0, .int .i64 0, .int .i64 0, .int .i64 0, .int .i64 0, .int .i64 0, .int .i64 0, .slice none 0 0] 28)) w.heap.size z d s l a := (g5_new w z d s l a).keep (bl _ _) (by simp)
  have hw := kal (bl w (.cells #[.int .i64 z, .int .i64 d, .int .i64 s, .int .i64 l, .int .i64 a] 23)) (.cells #[.int .i64 0, .int .i64 0, .int .i64 0, .int .i64 0, .int .i64 0, .int .i64 0, .int .i64 0, .slice none 0 0] 28)
  have l2 : ((w.alloc (.cells #[.int .i64 z, .int .i64 d, .int .i64 s, .int .i64 l, .int .i64 a] 23)).alloc (.cells #[.int .i64 0, .int .i64 0, .int .i64 0, .int .i64 0, .int .i64 0, .int .i64 0, .int .i64 0, .slice none 0 0] 28)).heap.size = w.heap.size + 2 := by simp
  have HQ : ((w.alloc (.cells #[.int .i64 z, .int .i64 d, .int .i64 s, .int .i64 l, .int .i64 a] 23)).alloc (.cells #[.int .i64 0, .int .i64 0, .int .i64 0, .int .i64 0, .int .i64 0, .int .i64 0, .int .i64 0, .slice none 0 0] 28)).heap[w.heap.size + 1]? = some (.cells #[.int .i64 0, .int .i64 0, .int .i64 0, .int .i64 0, .int .i64 0, .int .i64 0, .int .i64 0, .slice none 0 0] 28 (0, 0)) := heap_alloc2_new w _ _
  have HA := Lib.hid (hA.next hw)
  have HC := Lib.hid hc
  have HB := Lib.hid hb
  have HO := Lib.hid ho
  clear hA hc hb s1 ho
  go_enter Try.func21, Try.ntmps21
  go_upto_region 3 with fail
  generalize (w.alloc (.cells #[.int .i64 z, .int .i64 d, .int .i64 s, .int .i64 l, .int .i64 a] 23)).alloc (.cells #[.int .i64 0, .int .i64 0, .int .i64 0, .int .i64 0, .int .i64 0, .int .i64 0, .int .i64 0, .slice none 0 0] 28) = w0 at *
  obtain ⟨kd, hkd⟩ : ∃ k : Nat, at1 b 0 = k := ⟨_, rfl⟩
  obtain ⟨sq, hsq⟩ : ∃ k : Nat, at4 b 1 = k := ⟨_, rfl⟩
  obtain ⟨ep, hep⟩ : ∃ k : Nat, at4 b 5 = k := ⟨_, rfl⟩
  obtain ⟨ps, hps⟩ : ∃ k : Nat, at1 b 9 = k := ⟨_, rfl⟩
  obtain ⟨nm, hnm⟩ : ∃ k : Nat, at1 b 10 = k := ⟨_, rfl⟩
  have cell : ∀ k, k < n → ∀ W, Below w0.heap.size w0 W → W.cell? ⟨g, off + k, none⟩ = some (.int .u8 (at1 b k : Nat)) := fun k hk W hW => by
    have hkb : k < b.length := by rw [HB.out]; exact hk
    obtain ⟨g', off', he, -, hcs⟩ := (HA.out.below hW) (by omega)
    cases he
    rw [hcs k hkb, at1_get hkb]
  have HG1 := Lib.hid (show ∀ (W : World), Below w0.heap.size w0 W → Calls Try.prog 46 #[.slice (some ⟨g, off + 1, none⟩) (n - 1) (cp - 1), .int .i64 4] W fun e w' => e = .returned (.int .i64 sq) ∧ W = w' from fun W hW => by
    have h := pck.ref_get 4 (n - 1) (some ⟨g, off + 1, none⟩) (cp - 1) W.heap.size (b.drop 1) W (by decide) (by rw [List.length_drop, HB.out]) (by omega) ((HA.out.next hW).drop 1)
    rw [show num ((b.drop 1).take 4) = sq from hsq] at h
    exact h)
  have HG2 := Lib.hid (show ∀ (W : World), Below w0.heap.size w0 W → Calls Try.prog 46 #[.slice (some ⟨g, off + 5, none⟩) (n - 5) (cp - 5), .int .i64 4] W fun e w' => e = .returned (.int .i64 ep) ∧ W = w' from fun W hW => by
    have h := pck.ref_get 4 (n - 5) (some ⟨g, off + 5, none⟩) (cp - 5) W.heap.size (b.drop 5) W (by decide) (by rw [List.length_drop, HB.out]) (by omega) ((HA.out.next hW).drop 5)
    rw [show num ((b.drop 5).take 4) = ep from hep] at h
    exact h)
  have HF := Lib.hid (show ∀ W, Below w0.heap.size w0 W → (W.cell? ⟨g, off, none⟩ = some (.int .u8 (kd : Nat)) ∧ W.cell? ⟨g, off + 9, none⟩ = some (.int .u8 (ps : Nat)) ∧ W.cell? ⟨g, off + 10, none⟩ = some (.int .u8 (nm : Nat))) ∧ Below w0.heap.size w0 W from fun W hW => ⟨⟨by rw [← hkd]; exact cell 0 (by omega) W hW, by rw [← hps]; exact cell 9 (by omega) W hW, by rw [← hnm]; exact cell 10 (by omega) W hW⟩, hW⟩)
  have HCE := Lib.hid cell
  have HV := Lib.hid (And.intro hkd (And.intro hsq (And.intro hep (And.intro hps hnm))))
  have hk8 : kd < 256 ∧ ps < 256 ∧ nm < 256 := by
    have hl := HB.out
    rw [← hkd, ← hps, ← hnm, at1_get (show 0 < b.length by omega), at1_get (show 9 < b.length by omega), at1_get (show 10 < b.length by omega)]
    exact ⟨UInt8.toNat_lt _, UInt8.toNat_lt _, UInt8.toNat_lt _⟩
  have uk : IntKind.i64.wrap (kd : Int) = kd := IntWalk.i64_in _ (by omega)
  have up : IntKind.i64.wrap (ps : Int) = ps := IntWalk.i64_in _ (by omega)
  have um : IntKind.i64.wrap (nm : Int) = nm := IntWalk.i64_in _ (by omega)
  clear cell hkd hsq hep hps hnm
  have j0 : 0 < n := by omega
  have j1 : (1 : Int) ≤ n := by omega
  have j5 : (5 : Int) ≤ n := by omega
  have j9 : (9 : Int) < n := by omega
  have jA : (10 : Int) < n := by omega
  have k1 : ¬ cp = 1 := by omega
  have k5 : ¬ cp = 5 := by omega
  have hb0 := bl w0 (.cells #[.int .i64 0, .int .i64 0, .int .i64 0, .int .i64 0, .int .i64 0, .int .i64 0, .int .i64 0, .slice none 0 0] 28)
  go_cut [6] from 7 to 29 (fun r wc => r = .pointer (some ⟨w.heap.size + 2, 0, none⟩) ∧ wc.heap[w.heap.size + 2]? = some (.cells #[.int .i64 kd, .int .i64 sq, .int .i64 ep, .int .i64 ps, .int .i64 nm, .int .i64 0, .int .i64 0, .slice none 0 0] 28 (0, 0)) ∧ Below w0.heap.size w0 wc)
  case first =>
    go_region_held3 (fun W => (W.cell? ⟨g, off, none⟩ = some (.int .u8 (kd : Nat)) ∧ W.cell? ⟨g, off + 9, none⟩ = some (.int .u8 (ps : Nat)) ∧ W.cell? ⟨g, off + 10, none⟩ = some (.int .u8 (nm : Nat))) ∧ Below w0.heap.size w0 W)
      ((refine HF.out _ ?_; first
        | with_reducible exact below_dr (Below.refl _ _)
        | with_reducible exact below_dr hb0
        | with_reducible exact below_dr (bl w0 _)
        | fail))
      (first
        | (go_at_call 46; (with_reducible refine (HG1.out _ (by first | with_reducible exact below_dr (Below.refl _ _) | with_reducible exact below_dr hb0)).mono ?_); rintro e w1 ⟨rfl, rfl⟩)
        | (go_at_call 46; (with_reducible refine (HG2.out _ (by first | with_reducible exact below_dr (Below.refl _ _) | with_reducible exact below_dr hb0)).mono ?_); rintro e w1 ⟨rfl, rfl⟩)
        | fail)
    all_goals (go_wp2_with fail; go_meet)
    all_goals exact ⟨rfl, by rw [← l2]; exact heap_alloc_new w0 _, below_dr (bl w0 _)⟩
  case rest =>
    obtain ⟨rfl, HR, hbc⟩ := hcut
    obtain ⟨w1, rfl⟩ : ∃ x, x = wc := ⟨wc, rfl⟩
    have lc := hbc.size
    have hw1 := bt hw hbc
    have HQ1 := blk_next hbc HQ
    have GG1 := GG.keep hbc (by omega)
    have l1 : w.heap.size + 2 < w1.heap.size := (Array.getElem?_eq_some_iff.1 HR).1
    clear HQ GG hb0 HG1 HG2 HF
    obtain ⟨g0, g1, g2, g3, g4⟩ := id GG1
    by_cases hk : kd = 1
    · have i2 : (kd : Int) = 1 := by omega
      rw [i2] at HR
      have HK := Lib.hid hk
      have FF := f8_row HR
      obtain ⟨c0, c1, c2, c3, c4, c5, c6, c7⟩ := id FF.c
      clear i2 hk uk
      by_cases h14 : n < 14
      · have i3 : (n : Int) < 14 := by omega
        have HNO := Lib.hid (show ¬ RdOk z d b from fun h => by
          have hl := HB.out
          rcases h.1.2 with ⟨-, k1, -⟩ | ⟨k1, -⟩
          · omega
          · exact k1 (HV.out.1.trans HK.out))
        go_upto_region 6 with fail
        go_wp2_with (refine wpList_store_row rfl 28 (.tmp 4) (.tmp 46) rfl (w.heap.size + 1) #[.int .i64 0, .int .i64 0, .int .i64 0, .int .i64 0, .int .i64 0, .int .i64 0, .int .i64 0, .slice none 0 0] rfl rfl 28 #[.int .i64 0, .int .i64 0, .int .i64 0, .int .i64 0, .int .i64 0, .int .i64 0, .int .i64 0, .slice none 0 0] HQ1 (by kernel_rfl) rfl (by simp [Value.oneCell']) ?_)
        (try simp only [Exit.inBlock, Exit.then])
        refine ret21 (w.heap.size + 1) #[.int .i64 0, .int .i64 0, .int .i64 0, .int .i64 0, .int .i64 0, .int .i64 0, .int .i64 0, .slice none 0 0] (.bool false) 28 ?_ ?_ ?_ ?_ ?_ ?_
        · rfl
        · rfl
        · rfl
        · rfl
        · exact setRow_heap _ _ _ _ _ _ HQ1
        refine ⟨.inr ⟨?_, rfl⟩, below_setRow hw1 (by omega) _⟩
        cases c
        · rfl
        · exact absurd (HC.out.1 rfl) HNO.out
      · have i3 : ¬ (n : Int) < 14 := by omega
        obtain ⟨m, hm⟩ : ∃ k : Nat, at1 b 13 = k := ⟨_, rfl⟩
        have m8 : m < 256 := by
          have hl := HB.out
          rw [← hm, at1_get (show 13 < b.length by omega)]
          exact UInt8.toNat_lt _
        have c13 : w1.cell? ⟨g, off + 13, none⟩ = some (.int .u8 (m : Nat)) := by rw [← hm]; exact HCE.out 13 (by omega) w1 hbc
        have um13 : IntKind.i64.wrap (m : Int) = m := IntWalk.i64_in _ (by omega)
        have us13 : IntKind.i64.wrap (14 + (m : Int)) = 14 + (m : Int) := IntWalk.i64_in _ (by omega)
        have j13 : (13 : Int) < n := by omega
        have HM := Lib.hid hm
        clear hm
        by_cases hlen : n = 14 + m
        · have i4 : (n : Int) = 14 + (m : Int) := by omega
          have HLE := Lib.hid hlen
          clear hlen
          go_upto_region 7 with fail
          clear i4 us13 um13 c13
          obtain ⟨y, hy⟩ : ∃ k : Nat, at1 b 11 = k := ⟨_, rfl⟩
          obtain ⟨x, hx⟩ : ∃ k : Nat, at1 b 12 = k := ⟨_, rfl⟩
          have xy8 : y < 256 ∧ x < 256 := by
            have hl := HB.out
            rw [← hy, ← hx, at1_get (show 11 < b.length by omega), at1_get (show 12 < b.length by omega)]
            exact ⟨UInt8.toNat_lt _, UInt8.toNat_lt _⟩
          have cc : ∀ W, Below w1.heap.size w1 W → W.cell? ⟨g, off + 11, none⟩ = some (.int .u8 (y : Nat)) ∧ W.cell? ⟨g, off + 12, none⟩ = some (.int .u8 (x : Nat)) := fun W hW => ⟨by rw [← hy]; exact HCE.out 11 (by omega) W (bt hbc hW), by rw [← hx]; exact HCE.out 12 (by omega) W (bt hbc hW)⟩
          have uy : IntKind.i64.wrap (y : Int) = y := IntWalk.i64_in _ (by omega)
          have ux : IntKind.i64.wrap (x : Int) = x := IntWalk.i64_in _ (by omega)
          have j11 : (11 : Int) < n := by omega
          have j12 : (12 : Int) < n := by omega
          have j14 : (14 : Int) ≤ n := by omega
          have HXY := Lib.hid (And.intro hy hx)
          clear hy hx
          have HTW := Lib.hid (show ∀ (W : World) (A' : Option Addr) (c' : Nat), Below w1.heap.size w1 W → (A' = some ⟨g, off + 14, none⟩ ∨ n = 14) → Calls Try.prog 29 #[.slice A' (n - 14) c'] W fun e w' => One W.heap.size (b.drop 14) e w' ∧ Below W.heap.size W w' from fun W A' c' hW hA' => by
            have hl : (b.drop 14).length = n - 14 := by rw [List.length_drop, HB.out]
            have h := twin_any A' c' W.heap.size (b.drop 14) W (by
              rcases hA' with rfl | h
              · exact (HA.out.next (bt hbc hW)).drop 14
              · rw [show b.drop 14 = [] from List.drop_eq_nil_of_le (by rw [HB.out]; omega)]; exact Sl.nil _ _ _) (by omega)
            rwa [hl] at h)
          by_cases hcp : cp = 14
          · have hn14 : n = 14 := by omega
            have HN14 := Lib.hid hn14
            clear hn14
            refine wp_region_tail (S := fun W => (W.cell? ⟨g, off + 11, none⟩ = some (.int .u8 (y : Nat)) ∧ W.cell? ⟨g, off + 12, none⟩ = some (.int .u8 (x : Nat))) ∧ Below w1.heap.size w1 W) 13 rfl (by kernel_rfl) (by kernel_rfl) ⟨cc _ (below_dr (Below.refl _ _)), below_dr (Below.refl _ _)⟩ (fun hS => ?_)
            simp only [List.take_succ_cons, List.take_zero]
            (refine wpAnyH_take (i := 0) (v := ?_) rfl (by kernel_rfl) (by kernel_rfl) (by kernel_rfl) (fun _ _ _ h => h) (Or.inl ⟨by rfl, ?_⟩) (by assumption) ?_; rotate_left; (focus (intro w hSw; (try dsimp only at hSw); go_split_ands; go_simp <;> with_reducible rfl)); simp only [List.getElem_toArray, List.getElem_cons_zero, Act.put, List.setIfInBounds_toArray, List.set_cons_zero, List.set_cons_succ])
            (refine wpAnyH_take (i := 1) (v := ?_) rfl (by kernel_rfl) (by kernel_rfl) (by kernel_rfl) (fun _ _ _ h => h) (Or.inl ⟨by rfl, ?_⟩) (by assumption) ?_; rotate_left; (focus (intro w hSw; (try dsimp only at hSw); go_split_ands; go_simp <;> with_reducible rfl)); simp only [List.getElem_toArray, List.getElem_cons_zero, List.getElem_cons_succ, Act.put, List.setIfInBounds_toArray, List.set_cons_zero, List.set_cons_succ])
            (refine wpAnyH_take (i := 2) (v := ?_) rfl (by kernel_rfl) (by kernel_rfl) (by kernel_rfl) (fun _ _ _ h => h) (Or.inl ⟨by rfl, ?_⟩) (by assumption) ?_; rotate_left; (focus (intro w hSw; (try dsimp only at hSw); go_split_ands; go_simp <;> with_reducible rfl)); simp only [List.getElem_toArray, List.getElem_cons_zero, List.getElem_cons_succ, Act.put, List.setIfInBounds_toArray, List.set_cons_zero, List.set_cons_succ])
            (refine wpAnyH_take (i := 3) (v := ?_) rfl (by kernel_rfl) (by kernel_rfl) (by kernel_rfl) (fun _ _ _ h => h) (Or.inl ⟨by rfl, ?_⟩) (by assumption) ?_; rotate_left; (focus (intro w hSw; (try dsimp only at hSw); go_split_ands; go_simp <;> with_reducible rfl)); simp only [List.getElem_toArray, List.getElem_cons_zero, List.getElem_cons_succ, Act.put, List.setIfInBounds_toArray, List.set_cons_zero, List.set_cons_succ])
            (refine wpAnyH_take (i := 4) (v := ?_) rfl (by kernel_rfl) (by kernel_rfl) (by kernel_rfl) (fun _ _ _ h => h) (Or.inl ⟨by rfl, ?_⟩) (by assumption) ?_; rotate_left; (focus (intro w hSw; (try dsimp only at hSw); go_split_ands; go_simp <;> with_reducible rfl)); simp only [List.getElem_toArray, List.getElem_cons_zero, List.getElem_cons_succ, Act.put, List.setIfInBounds_toArray, List.set_cons_zero, List.set_cons_succ])
            (refine wpAnyH_take (i := 5) (v := ?_) rfl (by kernel_rfl) (by kernel_rfl) (by kernel_rfl) (fun _ _ _ h => h) (Or.inl ⟨by rfl, ?_⟩) (by assumption) ?_; rotate_left; (focus (intro w hSw; (try dsimp only at hSw); go_split_ands; go_simp <;> with_reducible rfl)); simp only [List.getElem_toArray, List.getElem_cons_zero, List.getElem_cons_succ, Act.put, List.setIfInBounds_toArray, List.set_cons_zero, List.set_cons_succ])
            (refine wpAnyH_take (i := 6) (v := ?_) rfl (by kernel_rfl) (by kernel_rfl) (by kernel_rfl) (fun _ _ _ h => h) (Or.inl ⟨by rfl, ?_⟩) (by assumption) ?_; rotate_left; (focus (intro w hSw; (try dsimp only at hSw); go_split_ands; go_simp <;> with_reducible rfl)); simp only [List.getElem_toArray, List.getElem_cons_zero, List.getElem_cons_succ, Act.put, List.setIfInBounds_toArray, List.set_cons_zero, List.set_cons_succ])
            (refine wpAnyH_take (i := 7) (v := ?_) rfl (by kernel_rfl) (by kernel_rfl) (by kernel_rfl) (fun _ _ _ h => h) (Or.inl ⟨by rfl, ?_⟩) (by assumption) ?_; rotate_left; (focus (intro w hSw; (try dsimp only at hSw); go_split_ands; go_simp <;> with_reducible rfl)); simp only [List.getElem_toArray, List.getElem_cons_zero, List.getElem_cons_succ, Act.put, List.setIfInBounds_toArray, List.set_cons_zero, List.set_cons_succ])
            (refine wpAnyH_take (i := 8) (v := ?_) rfl (by kernel_rfl) (by kernel_rfl) (by kernel_rfl) (fun _ _ _ h => h) (Or.inl ⟨by rfl, ?_⟩) (by assumption) ?_; rotate_left; (focus (intro w hSw; (try dsimp only at hSw); go_split_ands; go_simp <;> with_reducible rfl)); simp only [List.getElem_toArray, List.getElem_cons_zero, List.getElem_cons_succ, Act.put, List.setIfInBounds_toArray, List.set_cons_zero, List.set_cons_succ])
            (refine wpAnyH_take (i := 9) (v := ?_) rfl (by kernel_rfl) (by kernel_rfl) (by kernel_rfl) (fun _ _ _ h => h) (Or.inl ⟨by rfl, ?_⟩) (by assumption) ?_; rotate_left; (focus (intro w hSw; (try dsimp only at hSw); go_split_ands; go_simp <;> with_reducible rfl)); simp only [List.getElem_toArray, List.getElem_cons_zero, List.getElem_cons_succ, Act.put, List.setIfInBounds_toArray, List.set_cons_zero, List.set_cons_succ])
            refine wpAnyH_ready (rs := [10]) (by kernel_rfl) (by simp) ?_
            refine AllReadyH.cons rfl (fun K hK => ?_) AllReadyH.nil
            go_simp
            (with_reducible refine (HTW.out _ _ _ (below_dr (Below.refl _ _)) (by first | exact .inl rfl | exact .inr HN14.out)).mono ?_)
            rintro e wT ⟨⟨vT, rfl, oT⟩, hbq⟩
            obtain ⟨X, xc, hvT, oX⟩ := own_q5 oT (show (b.drop 14).length = n - 14 by rw [List.length_drop, HB.out])
            subst hvT
            have hbT := bt (below_dr (Below.refl w1.heap.size w1)) hbq
            refine hK.out _ _ ⟨cc _ hbT, hbT⟩ (fun hS2 => ?_)
            clear hK K
            try simp only [List.getElem_toArray, List.getElem_cons_zero, List.getElem_cons_succ, Act.put, List.setIfInBounds_toArray, List.set_cons_zero, List.set_cons_succ]
            (refine wpAnyH_take (i := 11) (v := ?_) rfl (by kernel_rfl) (by kernel_rfl) (by kernel_rfl) (fun _ _ _ h => h) (Or.inl ⟨by rfl, ?_⟩) (by assumption) ?_; rotate_left; (focus (intro w hSw; (try dsimp only at hSw); go_split_ands; go_simp <;> with_reducible rfl)); simp only [List.getElem_toArray, List.getElem_cons_zero, List.getElem_cons_succ, Act.put, List.setIfInBounds_toArray, List.set_cons_zero, List.set_cons_succ])
            (refine wpAnyH_take (i := 12) (v := ?_) rfl (by kernel_rfl) (by kernel_rfl) (by kernel_rfl) (fun _ _ _ h => h) (Or.inl ⟨by rfl, ?_⟩) (by assumption) ?_; rotate_left; (focus (intro w hSw; (try dsimp only at hSw); go_split_ands; go_simp <;> with_reducible rfl)); simp only [List.getElem_toArray, List.getElem_cons_zero, List.getElem_cons_succ, Act.put, List.setIfInBounds_toArray, List.set_cons_zero, List.set_cons_succ])
            refine wpAnyH_done (by kernel_rfl) ?_ _
            have FT := f8_row (blk_next hbT HR)
            obtain ⟨t0, t1, t2, t3, t4, t5, t6, t7⟩ := id FT.c
            have f5 := FT.f 5
            have f6 := FT.f 6
            have f7 := FT.f 7
            simp only [tailQ]
            go_simp
            have hlT := hbT.size
            have C2 := ((FT.c.set5 (.int .i64 (y : Int))).set6 (.int .i64 (x : Int))).set7 (.slice X (n - 14) xc)
            have Q2 := row_set (g := w.heap.size + 2) (o := 7) (.slice X (n - 14) xc) (row_set (g := w.heap.size + 2) (o := 6) (.int .i64 (x : Int)) (row_set (g := w.heap.size + 2) (o := 5) (.int .i64 (y : Int)) (blk_next hbT HQ1) (by omega)) (by omega)) (by omega)
            have O2 := own_set (g := w.heap.size + 2) (o := 7) (own_set (g := w.heap.size + 2) (o := 6) (own_set (g := w.heap.size + 2) (o := 5) (oX.less (show w.heap.size + 3 ≤ _ from l1)) (by omega) (.int .i64 (y : Int))) (by omega) (.int .i64 (x : Int))) (by omega) (.slice X (n - 14) xc)
            have G2 := (((GG1.keep hbT (by omega)).set (g' := w.heap.size + 2) (o := 5) (by omega) (.int .i64 (y : Int))).set (g' := w.heap.size + 2) (o := 6) (by omega) (.int .i64 (x : Int))).set (g' := w.heap.size + 2) (o := 7) (by omega) (.slice X (n - 14) xc)
            have hw2 := (((bt hw1 hbT).setCell (p := ⟨w.heap.size + 2, 5, none⟩) (show w.heap.size ≤ w.heap.size + 2 by omega) (.int .i64 (y : Int))).setCell (p := ⟨w.heap.size + 2, 6, none⟩) (show w.heap.size ≤ w.heap.size + 2 by omega) (.int .i64 (x : Int))).setCell (p := ⟨w.heap.size + 2, 7, none⟩) (show w.heap.size ≤ w.heap.size + 2 by omega) (.slice X (n - 14) xc)
            have F6 : ((((wT.setCell ⟨w.heap.size + 2, 5, none⟩ (.int .i64 (y : Int))).setCell ⟨w.heap.size + 2, 6, none⟩ (.int .i64 (x : Int))).setCell ⟨w.heap.size + 2, 7, none⟩ (.slice X (n - 14) xc)).frozen? ⟨w.heap.size + 2, 6, none⟩) = false := by rw [World.frozen?_setCell, World.frozen?_setCell, World.frozen?_setCell]; exact f6
            have L2 : w.heap.size + 2 < (((wT.setCell ⟨w.heap.size + 2, 5, none⟩ (.int .i64 (y : Int))).setCell ⟨w.heap.size + 2, 6, none⟩ (.int .i64 (x : Int))).setCell ⟨w.heap.size + 2, 7, none⟩ (.slice X (n - 14) xc)).heap.size := by rw [World.size_setCell, World.size_setCell, World.size_setCell]; omega
            clear FT t0 t1 t2 t3 t4 t5 t6 t7 f5 f6 f7 FF c0 c1 c2 c3 c4 c5 c6 c7 g0 g1 g2 g3 g4 GG1 HQ1 HR hS hS2 oX oT HTW hbT hbq hw1 hlT cc
            generalize ((wT.setCell ⟨w.heap.size + 2, 5, none⟩ (.int .i64 (y : Int))).setCell ⟨w.heap.size + 2, 6, none⟩ (.int .i64 (x : Int))).setCell ⟨w.heap.size + 2, 7, none⟩ (.slice X (n - 14) xc) = w2 at *
            have HLN := Lib.hid (show (b.drop 14).length = n - 14 by rw [List.length_drop, HB.out])
            have HLM := Lib.hid (show n - 14 ≤ 1048576 by omega)
            have HRB := Lib.hid (show ∀ wh : Int, whI x = wh → recN b = ⟨1, sq, ep, ps, nm, y, wh, b.drop 14⟩ from fun wh hwh => by
              obtain ⟨e1, e2, e3, e4, e5⟩ := HV.out
              unfold recN
              rw [if_pos (e1.trans HK.out), HXY.out.1, HXY.out.2, hwh, e1, e2, e3, e4, e5, HK.out]
              rfl)
            have HCB := Lib.hid (show ∀ wh : Int, whI x = wh → (c = true ↔ RecOk z d ⟨1, sq, ep, ps, nm, y, wh, b.drop 14⟩) from fun wh hwh => by
              rw [HC.out, ← HRB.out wh hwh]
              have hl := HB.out
              have hm := HM.out
              have hle := HLE.out
              exact ⟨fun h => h.2, fun h => ⟨⟨by omega, .inl ⟨HV.out.1.trans HK.out, by omega, by omega⟩⟩, h⟩⟩)
            obtain ⟨c0, c1, c2, c3, c4, c5, c6, c7⟩ := id C2
            by_cases h254 : x = 254
            · have i5 : (x : Int) = 254 := by omega
              have HREC := Lib.hid (HRB.out (-1) (by rw [h254]; rfl))
              have HC2 := Lib.hid (HCB.out (-1) (by rw [h254]; rfl))
              go_upto_region 12 with fail
              have C3 := C2.set6 (.int .i64 (-1))
              have Q3 := row_set (g := w.heap.size + 2) (o := 6) (.int .i64 (-1)) Q2 (by omega)
              have O3 := own_set (g := w.heap.size + 2) (o := 6) O2 (by omega) (.int .i64 (-1))
              have G3 := G2.set (g' := w.heap.size + 2) (o := 6) (by omega) (.int .i64 (-1))
              have hw3 := hw2.setCell (p := ⟨w.heap.size + 2, 6, none⟩) (show w.heap.size ≤ w.heap.size + 2 by omega) (.int .i64 (-1))
              have L3 : w.heap.size + 2 < (w2.setCell ⟨w.heap.size + 2, 6, none⟩ (.int .i64 (-1))).heap.size := by rw [World.size_setCell]; exact L2
              clear C2 Q2 O2 G2 hw2 L2 F6 c0 c1 c2 c3 c4 c5 c6 c7 i5 h254 ux
              generalize w2.setCell ⟨w.heap.size + 2, 6, none⟩ (.int .i64 (-1)) = w3 at *
              obtain ⟨c0, c1, c2, c3, c4, c5, c6, c7⟩ := id C3
              obtain ⟨g0, g1, g2, g3, g4⟩ := id G3
              have HIM := Lib.hid (own_bin O3 (y : Int) (-1))
              have HIMF := Lib.hid (show ∀ (w8 : World) (cs : Array Value), Below w3.heap.size w3 w8 → BIn (w8.setRow (w.heap.size + 1) cs) (w8.setRow (w.heap.size + 1) cs).heap.size ⟨y, -1, X, xc, b.drop 14⟩ from fun w8 cs h8 => own_bin (own_row (O3.below h8) (by omega) cs) _ _)
              have HRF := Lib.hid (show Calls Try.prog 25 #[.agg #[.int .i64 z, .int .i64 d, .int .i64 s, .int .i64 l, .int .i64 a], .agg #[.int .i64 1, .int .i64 sq, .int .i64 ep, .int .i64 ps, .int .i64 nm, .int .i64 y, .int .i64 (-1), .slice X (n - 14) xc]] w3 fun e w' => e = .returned (.bool c) ∧ Below w3.heap.size w3 w' from rrec_k c z d s l a (1) (sq) (ep) (ps) (nm) (y) ((-1)) (X) (xc) (b.drop 14) (n - 14) w3 HO.out HIM.out HLN.out HLM.out HC2.out)
              clear HC
              cases c
              · go_wp2_with (first | (go_at_call 25; (with_reducible refine HRF.out.mono ?_); rintro e w8 ⟨rfl, hb8⟩; have HQ8 := blk_next hb8 Q3; have hw8 := bt hw3 hb8; obtain ⟨d0, d1, d2, d3, d4, d5, d6, d7⟩ := C3.keep hb8 L3) | (refine wpList_store_row rfl 28 (.tmp 4) (.tmp 74) rfl (w.heap.size + 1) #[.int .i64 0, .int .i64 0, .int .i64 0, .int .i64 0, .int .i64 0, .int .i64 0, .int .i64 0, .slice none 0 0] rfl rfl 28 #[.int .i64 0, .int .i64 0, .int .i64 0, .int .i64 0, .int .i64 0, .int .i64 0, .int .i64 0, .slice none 0 0] HQ8 (by kernel_rfl) rfl (by simp [Value.oneCell']) ?_))
                (try simp only [Exit.inBlock, Exit.then])
                refine ret21 (w.heap.size + 1) #[.int .i64 0, .int .i64 0, .int .i64 0, .int .i64 0, .int .i64 0, .int .i64 0, .int .i64 0, .slice none 0 0] (.bool false) 28 ?_ ?_ ?_ ?_ ?_ ?_
                · rfl
                · rfl
                · rfl
                · rfl
                · exact setRow_heap _ _ _ _ _ _ HQ8
                · exact ⟨.inr ⟨rfl, rfl⟩, below_setRow hw8 (by omega) _⟩
              · go_wp2_with (first | (go_at_call 25; (with_reducible refine HRF.out.mono ?_); rintro e w8 ⟨rfl, hb8⟩; have HQ8 := blk_next hb8 Q3; have hw8 := bt hw3 hb8; obtain ⟨d0, d1, d2, d3, d4, d5, d6, d7⟩ := C3.keep hb8 L3) | (refine wpList_store_row rfl 28 (.tmp 4) (.tmp 75) rfl (w.heap.size + 1) #[.int .i64 1, .int .i64 sq, .int .i64 ep, .int .i64 ps, .int .i64 nm, .int .i64 y, .int .i64 (-1), .slice X (n - 14) xc] rfl rfl 28 #[.int .i64 0, .int .i64 0, .int .i64 0, .int .i64 0, .int .i64 0, .int .i64 0, .int .i64 0, .slice none 0 0] HQ8 (by kernel_rfl) rfl (by simp [Value.oneCell']) ?_))
                (try simp only [Exit.inBlock, Exit.then])
                refine ret21 (w.heap.size + 1) #[.int .i64 1, .int .i64 sq, .int .i64 ep, .int .i64 ps, .int .i64 nm, .int .i64 y, .int .i64 (-1), .slice X (n - 14) xc] (.bool true) 28 ?_ ?_ ?_ ?_ ?_ ?_
                · rfl
                · rfl
                · rfl
                · rfl
                · exact setRow_heap _ _ _ _ _ _ HQ8
                refine ⟨.inl ⟨rfl, X, xc, ?_, ?_⟩, below_setRow hw8 (by omega) _⟩
                · rw [HREC.out, ← HLN.out]
                · rw [HREC.out]; exact HIMF.out _ _ hb8
            · have i5 : ¬ ((x : Int) = 254) := by omega
              have hx254 : whI x = (x : Int) := by unfold whI; rw [if_neg h254]
              have HREC := Lib.hid (HRB.out x hx254)
              have HC2 := Lib.hid (HCB.out x hx254)
              obtain ⟨g0, g1, g2, g3, g4⟩ := id G2
              have HIM := Lib.hid (own_bin O2 (y : Int) (x : Int))
              have HIMF := Lib.hid (show ∀ (w8 : World) (cs : Array Value), Below w2.heap.size w2 w8 → BIn (w8.setRow (w.heap.size + 1) cs) (w8.setRow (w.heap.size + 1) cs).heap.size ⟨y, x, X, xc, b.drop 14⟩ from fun w8 cs h8 => own_bin (own_row (O2.below h8) (by omega) cs) _ _)
              have HRF := Lib.hid (show Calls Try.prog 25 #[.agg #[.int .i64 z, .int .i64 d, .int .i64 s, .int .i64 l, .int .i64 a], .agg #[.int .i64 1, .int .i64 sq, .int .i64 ep, .int .i64 ps, .int .i64 nm, .int .i64 y, .int .i64 x, .slice X (n - 14) xc]] w2 fun e w' => e = .returned (.bool c) ∧ Below w2.heap.size w2 w' from rrec_k c z d s l a (1) (sq) (ep) (ps) (nm) (y) (x) (X) (xc) (b.drop 14) (n - 14) w2 HO.out HIM.out HLN.out HLM.out HC2.out)
              clear HC
              cases c
              · go_wp2_with (first | (go_at_call 25; (with_reducible refine HRF.out.mono ?_); rintro e w8 ⟨rfl, hb8⟩; have HQ8 := blk_next hb8 Q2; have hw8 := bt hw2 hb8; obtain ⟨d0, d1, d2, d3, d4, d5, d6, d7⟩ := C2.keep hb8 L2) | (refine wpList_store_row rfl 28 (.tmp 4) (.tmp 74) rfl (w.heap.size + 1) #[.int .i64 0, .int .i64 0, .int .i64 0, .int .i64 0, .int .i64 0, .int .i64 0, .int .i64 0, .slice none 0 0] rfl rfl 28 #[.int .i64 0, .int .i64 0, .int .i64 0, .int .i64 0, .int .i64 0, .int .i64 0, .int .i64 0, .slice none 0 0] HQ8 (by kernel_rfl) rfl (by simp [Value.oneCell']) ?_))
                (try simp only [Exit.inBlock, Exit.then])
                refine ret21 (w.heap.size + 1) #[.int .i64 0, .int .i64 0, .int .i64 0, .int .i64 0, .int .i64 0, .int .i64 0, .int .i64 0, .slice none 0 0] (.bool false) 28 ?_ ?_ ?_ ?_ ?_ ?_
                · rfl
                · rfl
                · rfl
                · rfl
                · exact setRow_heap _ _ _ _ _ _ HQ8
                · exact ⟨.inr ⟨rfl, rfl⟩, below_setRow hw8 (by omega) _⟩
              · go_wp2_with (first | (go_at_call 25; (with_reducible refine HRF.out.mono ?_); rintro e w8 ⟨rfl, hb8⟩; have HQ8 := blk_next hb8 Q2; have hw8 := bt hw2 hb8; obtain ⟨d0, d1, d2, d3, d4, d5, d6, d7⟩ := C2.keep hb8 L2) | (refine wpList_store_row rfl 28 (.tmp 4) (.tmp 75) rfl (w.heap.size + 1) #[.int .i64 1, .int .i64 sq, .int .i64 ep, .int .i64 ps, .int .i64 nm, .int .i64 y, .int .i64 x, .slice X (n - 14) xc] rfl rfl 28 #[.int .i64 0, .int .i64 0, .int .i64 0, .int .i64 0, .int .i64 0, .int .i64 0, .int .i64 0, .slice none 0 0] HQ8 (by kernel_rfl) rfl (by simp [Value.oneCell']) ?_))
                (try simp only [Exit.inBlock, Exit.then])
                refine ret21 (w.heap.size + 1) #[.int .i64 1, .int .i64 sq, .int .i64 ep, .int .i64 ps, .int .i64 nm, .int .i64 y, .int .i64 x, .slice X (n - 14) xc] (.bool true) 28 ?_ ?_ ?_ ?_ ?_ ?_
                · rfl
                · rfl
                · rfl
                · rfl
                · exact setRow_heap _ _ _ _ _ _ HQ8
                refine ⟨.inl ⟨rfl, X, xc, ?_, ?_⟩, below_setRow hw8 (by omega) _⟩
                · rw [HREC.out, ← HLN.out]
                · rw [HREC.out]; exact HIMF.out _ _ hb8
          · have HN14 := Lib.hid (True.intro)
            refine wp_region_tail (S := fun W => (W.cell? ⟨g, off + 11, none⟩ = some (.int .u8 (y : Nat)) ∧ W.cell? ⟨g, off + 12, none⟩ = some (.int .u8 (x : Nat))) ∧ Below w1.heap.size w1 W) 13 rfl (by kernel_rfl) (by kernel_rfl) ⟨cc _ (below_dr (Below.refl _ _)), below_dr (Below.refl _ _)⟩ (fun hS => ?_)
            simp only [List.take_succ_cons, List.take_zero]
            (refine wpAnyH_take (i := 0) (v := ?_) rfl (by kernel_rfl) (by kernel_rfl) (by kernel_rfl) (fun _ _ _ h => h) (Or.inl ⟨by rfl, ?_⟩) (by assumption) ?_; rotate_left; (focus (intro w hSw; (try dsimp only at hSw); go_split_ands; go_simp <;> with_reducible rfl)); simp only [List.getElem_toArray, List.getElem_cons_zero, Act.put, List.setIfInBounds_toArray, List.set_cons_zero, List.set_cons_succ])
            (refine wpAnyH_take (i := 1) (v := ?_) rfl (by kernel_rfl) (by kernel_rfl) (by kernel_rfl) (fun _ _ _ h => h) (Or.inl ⟨by rfl, ?_⟩) (by assumption) ?_; rotate_left; (focus (intro w hSw; (try dsimp only at hSw); go_split_ands; go_simp <;> with_reducible rfl)); simp only [List.getElem_toArray, List.getElem_cons_zero, List.getElem_cons_succ, Act.put, List.setIfInBounds_toArray, List.set_cons_zero, List.set_cons_succ])
            (refine wpAnyH_take (i := 2) (v := ?_) rfl (by kernel_rfl) (by kernel_rfl) (by kernel_rfl) (fun _ _ _ h => h) (Or.inl ⟨by rfl, ?_⟩) (by assumption) ?_; rotate_left; (focus (intro w hSw; (try dsimp only at hSw); go_split_ands; go_simp <;> with_reducible rfl)); simp only [List.getElem_toArray, List.getElem_cons_zero, List.getElem_cons_succ, Act.put, List.setIfInBounds_toArray, List.set_cons_zero, List.set_cons_succ])
            (refine wpAnyH_take (i := 3) (v := ?_) rfl (by kernel_rfl) (by kernel_rfl) (by kernel_rfl) (fun _ _ _ h => h) (Or.inl ⟨by rfl, ?_⟩) (by assumption) ?_; rotate_left; (focus (intro w hSw; (try dsimp only at hSw); go_split_ands; go_simp <;> with_reducible rfl)); simp only [List.getElem_toArray, List.getElem_cons_zero, List.getElem_cons_succ, Act.put, List.setIfInBounds_toArray, List.set_cons_zero, List.set_cons_succ])
            (refine wpAnyH_take (i := 4) (v := ?_) rfl (by kernel_rfl) (by kernel_rfl) (by kernel_rfl) (fun _ _ _ h => h) (Or.inl ⟨by rfl, ?_⟩) (by assumption) ?_; rotate_left; (focus (intro w hSw; (try dsimp only at hSw); go_split_ands; go_simp <;> with_reducible rfl)); simp only [List.getElem_toArray, List.getElem_cons_zero, List.getElem_cons_succ, Act.put, List.setIfInBounds_toArray, List.set_cons_zero, List.set_cons_succ])
            (refine wpAnyH_take (i := 5) (v := ?_) rfl (by kernel_rfl) (by kernel_rfl) (by kernel_rfl) (fun _ _ _ h => h) (Or.inl ⟨by rfl, ?_⟩) (by assumption) ?_; rotate_left; (focus (intro w hSw; (try dsimp only at hSw); go_split_ands; go_simp <;> with_reducible rfl)); simp only [List.getElem_toArray, List.getElem_cons_zero, List.getElem_cons_succ, Act.put, List.setIfInBounds_toArray, List.set_cons_zero, List.set_cons_succ])
            (refine wpAnyH_take (i := 6) (v := ?_) rfl (by kernel_rfl) (by kernel_rfl) (by kernel_rfl) (fun _ _ _ h => h) (Or.inl ⟨by rfl, ?_⟩) (by assumption) ?_; rotate_left; (focus (intro w hSw; (try dsimp only at hSw); go_split_ands; go_simp <;> with_reducible rfl)); simp only [List.getElem_toArray, List.getElem_cons_zero, List.getElem_cons_succ, Act.put, List.setIfInBounds_toArray, List.set_cons_zero, List.set_cons_succ])
            (refine wpAnyH_take (i := 7) (v := ?_) rfl (by kernel_rfl) (by kernel_rfl) (by kernel_rfl) (fun _ _ _ h => h) (Or.inl ⟨by rfl, ?_⟩) (by assumption) ?_; rotate_left; (focus (intro w hSw; (try dsimp only at hSw); go_split_ands; go_simp <;> with_reducible rfl)); simp only [List.getElem_toArray, List.getElem_cons_zero, List.getElem_cons_succ, Act.put, List.setIfInBounds_toArray, List.set_cons_zero, List.set_cons_succ])
            (refine wpAnyH_take (i := 8) (v := ?_) rfl (by kernel_rfl) (by kernel_rfl) (by kernel_rfl) (fun _ _ _ h => h) (Or.inl ⟨by rfl, ?_⟩) (by assumption) ?_; rotate_left; (focus (intro w hSw; (try dsimp only at hSw); go_split_ands; go_simp <;> with_reducible rfl)); simp only [List.getElem_toArray, List.getElem_cons_zero, List.getElem_cons_succ, Act.put, List.setIfInBounds_toArray, List.set_cons_zero, List.set_cons_succ])
            (refine wpAnyH_take (i := 9) (v := ?_) rfl (by kernel_rfl) (by kernel_rfl) (by kernel_rfl) (fun _ _ _ h => h) (Or.inl ⟨by rfl, ?_⟩) (by assumption) ?_; rotate_left; (focus (intro w hSw; (try dsimp only at hSw); go_split_ands; go_simp <;> with_reducible rfl)); simp only [List.getElem_toArray, List.getElem_cons_zero, List.getElem_cons_succ, Act.put, List.setIfInBounds_toArray, List.set_cons_zero, List.set_cons_succ])
            refine wpAnyH_ready (rs := [10]) (by kernel_rfl) (by simp) ?_
            refine AllReadyH.cons rfl (fun K hK => ?_) AllReadyH.nil
            go_simp
            (with_reducible refine (HTW.out _ _ _ (below_dr (Below.refl _ _)) (by first | exact .inl rfl | exact .inr HN14.out)).mono ?_)
            rintro e wT ⟨⟨vT, rfl, oT⟩, hbq⟩
            obtain ⟨X, xc, hvT, oX⟩ := own_q5 oT (show (b.drop 14).length = n - 14 by rw [List.length_drop, HB.out])
            subst hvT
            have hbT := bt (below_dr (Below.refl w1.heap.size w1)) hbq
            refine hK.out _ _ ⟨cc _ hbT, hbT⟩ (fun hS2 => ?_)
            clear hK K
            try simp only [List.getElem_toArray, List.getElem_cons_zero, List.getElem_cons_succ, Act.put, List.setIfInBounds_toArray, List.set_cons_zero, List.set_cons_succ]
            (refine wpAnyH_take (i := 11) (v := ?_) rfl (by kernel_rfl) (by kernel_rfl) (by kernel_rfl) (fun _ _ _ h => h) (Or.inl ⟨by rfl, ?_⟩) (by assumption) ?_; rotate_left; (focus (intro w hSw; (try dsimp only at hSw); go_split_ands; go_simp <;> with_reducible rfl)); simp only [List.getElem_toArray, List.getElem_cons_zero, List.getElem_cons_succ, Act.put, List.setIfInBounds_toArray, List.set_cons_zero, List.set_cons_succ])
            (refine wpAnyH_take (i := 12) (v := ?_) rfl (by kernel_rfl) (by kernel_rfl) (by kernel_rfl) (fun _ _ _ h => h) (Or.inl ⟨by rfl, ?_⟩) (by assumption) ?_; rotate_left; (focus (intro w hSw; (try dsimp only at hSw); go_split_ands; go_simp <;> with_reducible rfl)); simp only [List.getElem_toArray, List.getElem_cons_zero, List.getElem_cons_succ, Act.put, List.setIfInBounds_toArray, List.set_cons_zero, List.set_cons_succ])
            refine wpAnyH_done (by kernel_rfl) ?_ _
            have FT := f8_row (blk_next hbT HR)
            obtain ⟨t0, t1, t2, t3, t4, t5, t6, t7⟩ := id FT.c
            have f5 := FT.f 5
            have f6 := FT.f 6
            have f7 := FT.f 7
            simp only [tailQ]
            go_simp
            have hlT := hbT.size
            have C2 := ((FT.c.set5 (.int .i64 (y : Int))).set6 (.int .i64 (x : Int))).set7 (.slice X (n - 14) xc)
            have Q2 := row_set (g := w.heap.size + 2) (o := 7) (.slice X (n - 14) xc) (row_set (g := w.heap.size + 2) (o := 6) (.int .i64 (x : Int)) (row_set (g := w.heap.size + 2) (o := 5) (.int .i64 (y : Int)) (blk_next hbT HQ1) (by omega)) (by omega)) (by omega)
            have O2 := own_set (g := w.heap.size + 2) (o := 7) (own_set (g := w.heap.size + 2) (o := 6) (own_set (g := w.heap.size + 2) (o := 5) (oX.less (show w.heap.size + 3 ≤ _ from l1)) (by omega) (.int .i64 (y : Int))) (by omega) (.int .i64 (x : Int))) (by omega) (.slice X (n - 14) xc)
            have G2 := (((GG1.keep hbT (by omega)).set (g' := w.heap.size + 2) (o := 5) (by omega) (.int .i64 (y : Int))).set (g' := w.heap.size + 2) (o := 6) (by omega) (.int .i64 (x : Int))).set (g' := w.heap.size + 2) (o := 7) (by omega) (.slice X (n - 14) xc)
            have hw2 := (((bt hw1 hbT).setCell (p := ⟨w.heap.size + 2, 5, none⟩) (show w.heap.size ≤ w.heap.size + 2 by omega) (.int .i64 (y : Int))).setCell (p := ⟨w.heap.size + 2, 6, none⟩) (show w.heap.size ≤ w.heap.size + 2 by omega) (.int .i64 (x : Int))).setCell (p := ⟨w.heap.size + 2, 7, none⟩) (show w.heap.size ≤ w.heap.size + 2 by omega) (.slice X (n - 14) xc)
            have F6 : ((((wT.setCell ⟨w.heap.size + 2, 5, none⟩ (.int .i64 (y : Int))).setCell ⟨w.heap.size + 2, 6, none⟩ (.int .i64 (x : Int))).setCell ⟨w.heap.size + 2, 7, none⟩ (.slice X (n - 14) xc)).frozen? ⟨w.heap.size + 2, 6, none⟩) = false := by rw [World.frozen?_setCell, World.frozen?_setCell, World.frozen?_setCell]; exact f6
            have L2 : w.heap.size + 2 < (((wT.setCell ⟨w.heap.size + 2, 5, none⟩ (.int .i64 (y : Int))).setCell ⟨w.heap.size + 2, 6, none⟩ (.int .i64 (x : Int))).setCell ⟨w.heap.size + 2, 7, none⟩ (.slice X (n - 14) xc)).heap.size := by rw [World.size_setCell, World.size_setCell, World.size_setCell]; omega
            clear FT t0 t1 t2 t3 t4 t5 t6 t7 f5 f6 f7 FF c0 c1 c2 c3 c4 c5 c6 c7 g0 g1 g2 g3 g4 GG1 HQ1 HR hS hS2 oX oT HTW hbT hbq hw1 hlT cc
            generalize ((wT.setCell ⟨w.heap.size + 2, 5, none⟩ (.int .i64 (y : Int))).setCell ⟨w.heap.size + 2, 6, none⟩ (.int .i64 (x : Int))).setCell ⟨w.heap.size + 2, 7, none⟩ (.slice X (n - 14) xc) = w2 at *
            have HLN := Lib.hid (show (b.drop 14).length = n - 14 by rw [List.length_drop, HB.out])
            have HLM := Lib.hid (show n - 14 ≤ 1048576 by omega)
            have HRB := Lib.hid (show ∀ wh : Int, whI x = wh → recN b = ⟨1, sq, ep, ps, nm, y, wh, b.drop 14⟩ from fun wh hwh => by
              obtain ⟨e1, e2, e3, e4, e5⟩ := HV.out
              unfold recN
              rw [if_pos (e1.trans HK.out), HXY.out.1, HXY.out.2, hwh, e1, e2, e3, e4, e5, HK.out]
              rfl)
            have HCB := Lib.hid (show ∀ wh : Int, whI x = wh → (c = true ↔ RecOk z d ⟨1, sq, ep, ps, nm, y, wh, b.drop 14⟩) from fun wh hwh => by
              rw [HC.out, ← HRB.out wh hwh]
              have hl := HB.out
              have hm := HM.out
              have hle := HLE.out
              exact ⟨fun h => h.2, fun h => ⟨⟨by omega, .inl ⟨HV.out.1.trans HK.out, by omega, by omega⟩⟩, h⟩⟩)
            obtain ⟨c0, c1, c2, c3, c4, c5, c6, c7⟩ := id C2
            by_cases h254 : x = 254
            · have i5 : (x : Int) = 254 := by omega
              have HREC := Lib.hid (HRB.out (-1) (by rw [h254]; rfl))
              have HC2 := Lib.hid (HCB.out (-1) (by rw [h254]; rfl))
              go_upto_region 12 with fail
              have C3 := C2.set6 (.int .i64 (-1))
              have Q3 := row_set (g := w.heap.size + 2) (o := 6) (.int .i64 (-1)) Q2 (by omega)
              have O3 := own_set (g := w.heap.size + 2) (o := 6) O2 (by omega) (.int .i64 (-1))
              have G3 := G2.set (g' := w.heap.size + 2) (o := 6) (by omega) (.int .i64 (-1))
              have hw3 := hw2.setCell (p := ⟨w.heap.size + 2, 6, none⟩) (show w.heap.size ≤ w.heap.size + 2 by omega) (.int .i64 (-1))
              have L3 : w.heap.size + 2 < (w2.setCell ⟨w.heap.size + 2, 6, none⟩ (.int .i64 (-1))).heap.size := by rw [World.size_setCell]; exact L2
              clear C2 Q2 O2 G2 hw2 L2 F6 c0 c1 c2 c3 c4 c5 c6 c7 i5 h254 ux
              generalize w2.setCell ⟨w.heap.size + 2, 6, none⟩ (.int .i64 (-1)) = w3 at *
              obtain ⟨c0, c1, c2, c3, c4, c5, c6, c7⟩ := id C3
              obtain ⟨g0, g1, g2, g3, g4⟩ := id G3
              have HIM := Lib.hid (own_bin O3 (y : Int) (-1))
              have HIMF := Lib.hid (show ∀ (w8 : World) (cs : Array Value), Below w3.heap.size w3 w8 → BIn (w8.setRow (w.heap.size + 1) cs) (w8.setRow (w.heap.size + 1) cs).heap.size ⟨y, -1, X, xc, b.drop 14⟩ from fun w8 cs h8 => own_bin (own_row (O3.below h8) (by omega) cs) _ _)
              have HRF := Lib.hid (show Calls Try.prog 25 #[.agg #[.int .i64 z, .int .i64 d, .int .i64 s, .int .i64 l, .int .i64 a], .agg #[.int .i64 1, .int .i64 sq, .int .i64 ep, .int .i64 ps, .int .i64 nm, .int .i64 y, .int .i64 (-1), .slice X (n - 14) xc]] w3 fun e w' => e = .returned (.bool c) ∧ Below w3.heap.size w3 w' from rrec_k c z d s l a (1) (sq) (ep) (ps) (nm) (y) ((-1)) (X) (xc) (b.drop 14) (n - 14) w3 HO.out HIM.out HLN.out HLM.out HC2.out)
              clear HC
              cases c
              · go_wp2_with (first | (go_at_call 25; (with_reducible refine HRF.out.mono ?_); rintro e w8 ⟨rfl, hb8⟩; have HQ8 := blk_next hb8 Q3; have hw8 := bt hw3 hb8; obtain ⟨d0, d1, d2, d3, d4, d5, d6, d7⟩ := C3.keep hb8 L3) | (refine wpList_store_row rfl 28 (.tmp 4) (.tmp 74) rfl (w.heap.size + 1) #[.int .i64 0, .int .i64 0, .int .i64 0, .int .i64 0, .int .i64 0, .int .i64 0, .int .i64 0, .slice none 0 0] rfl rfl 28 #[.int .i64 0, .int .i64 0, .int .i64 0, .int .i64 0, .int .i64 0, .int .i64 0, .int .i64 0, .slice none 0 0] HQ8 (by kernel_rfl) rfl (by simp [Value.oneCell']) ?_))
                (try simp only [Exit.inBlock, Exit.then])
                refine ret21 (w.heap.size + 1) #[.int .i64 0, .int .i64 0, .int .i64 0, .int .i64 0, .int .i64 0, .int .i64 0, .int .i64 0, .slice none 0 0] (.bool false) 28 ?_ ?_ ?_ ?_ ?_ ?_
                · rfl
                · rfl
                · rfl
                · rfl
                · exact setRow_heap _ _ _ _ _ _ HQ8
                · exact ⟨.inr ⟨rfl, rfl⟩, below_setRow hw8 (by omega) _⟩
              · go_wp2_with (first | (go_at_call 25; (with_reducible refine HRF.out.mono ?_); rintro e w8 ⟨rfl, hb8⟩; have HQ8 := blk_next hb8 Q3; have hw8 := bt hw3 hb8; obtain ⟨d0, d1, d2, d3, d4, d5, d6, d7⟩ := C3.keep hb8 L3) | (refine wpList_store_row rfl 28 (.tmp 4) (.tmp 75) rfl (w.heap.size + 1) #[.int .i64 1, .int .i64 sq, .int .i64 ep, .int .i64 ps, .int .i64 nm, .int .i64 y, .int .i64 (-1), .slice X (n - 14) xc] rfl rfl 28 #[.int .i64 0, .int .i64 0, .int .i64 0, .int .i64 0, .int .i64 0, .int .i64 0, .int .i64 0, .slice none 0 0] HQ8 (by kernel_rfl) rfl (by simp [Value.oneCell']) ?_))
                (try simp only [Exit.inBlock, Exit.then])
                refine ret21 (w.heap.size + 1) #[.int .i64 1, .int .i64 sq, .int .i64 ep, .int .i64 ps, .int .i64 nm, .int .i64 y, .int .i64 (-1), .slice X (n - 14) xc] (.bool true) 28 ?_ ?_ ?_ ?_ ?_ ?_
                · rfl
                · rfl
                · rfl
                · rfl
                · exact setRow_heap _ _ _ _ _ _ HQ8
                refine ⟨.inl ⟨rfl, X, xc, ?_, ?_⟩, below_setRow hw8 (by omega) _⟩
                · rw [HREC.out, ← HLN.out]
                · rw [HREC.out]; exact HIMF.out _ _ hb8
            · have i5 : ¬ ((x : Int) = 254) := by omega
              have hx254 : whI x = (x : Int) := by unfold whI; rw [if_neg h254]
              have HREC := Lib.hid (HRB.out x hx254)
              have HC2 := Lib.hid (HCB.out x hx254)
              obtain ⟨g0, g1, g2, g3, g4⟩ := id G2
              have HIM := Lib.hid (own_bin O2 (y : Int) (x : Int))
              have HIMF := Lib.hid (show ∀ (w8 : World) (cs : Array Value), Below w2.heap.size w2 w8 → BIn (w8.setRow (w.heap.size + 1) cs) (w8.setRow (w.heap.size + 1) cs).heap.size ⟨y, x, X, xc, b.drop 14⟩ from fun w8 cs h8 => own_bin (own_row (O2.below h8) (by omega) cs) _ _)
              have HRF := Lib.hid (show Calls Try.prog 25 #[.agg #[.int .i64 z, .int .i64 d, .int .i64 s, .int .i64 l, .int .i64 a], .agg #[.int .i64 1, .int .i64 sq, .int .i64 ep, .int .i64 ps, .int .i64 nm, .int .i64 y, .int .i64 x, .slice X (n - 14) xc]] w2 fun e w' => e = .returned (.bool c) ∧ Below w2.heap.size w2 w' from rrec_k c z d s l a (1) (sq) (ep) (ps) (nm) (y) (x) (X) (xc) (b.drop 14) (n - 14) w2 HO.out HIM.out HLN.out HLM.out HC2.out)
              clear HC
              cases c
              · go_wp2_with (first | (go_at_call 25; (with_reducible refine HRF.out.mono ?_); rintro e w8 ⟨rfl, hb8⟩; have HQ8 := blk_next hb8 Q2; have hw8 := bt hw2 hb8; obtain ⟨d0, d1, d2, d3, d4, d5, d6, d7⟩ := C2.keep hb8 L2) | (refine wpList_store_row rfl 28 (.tmp 4) (.tmp 74) rfl (w.heap.size + 1) #[.int .i64 0, .int .i64 0, .int .i64 0, .int .i64 0, .int .i64 0, .int .i64 0, .int .i64 0, .slice none 0 0] rfl rfl 28 #[.int .i64 0, .int .i64 0, .int .i64 0, .int .i64 0, .int .i64 0, .int .i64 0, .int .i64 0, .slice none 0 0] HQ8 (by kernel_rfl) rfl (by simp [Value.oneCell']) ?_))
                (try simp only [Exit.inBlock, Exit.then])
                refine ret21 (w.heap.size + 1) #[.int .i64 0, .int .i64 0, .int .i64 0, .int .i64 0, .int .i64 0, .int .i64 0, .int .i64 0, .slice none 0 0] (.bool false) 28 ?_ ?_ ?_ ?_ ?_ ?_
                · rfl
                · rfl
                · rfl
                · rfl
                · exact setRow_heap _ _ _ _ _ _ HQ8
                · exact ⟨.inr ⟨rfl, rfl⟩, below_setRow hw8 (by omega) _⟩
              · go_wp2_with (first | (go_at_call 25; (with_reducible refine HRF.out.mono ?_); rintro e w8 ⟨rfl, hb8⟩; have HQ8 := blk_next hb8 Q2; have hw8 := bt hw2 hb8; obtain ⟨d0, d1, d2, d3, d4, d5, d6, d7⟩ := C2.keep hb8 L2) | (refine wpList_store_row rfl 28 (.tmp 4) (.tmp 75) rfl (w.heap.size + 1) #[.int .i64 1, .int .i64 sq, .int .i64 ep, .int .i64 ps, .int .i64 nm, .int .i64 y, .int .i64 x, .slice X (n - 14) xc] rfl rfl 28 #[.int .i64 0, .int .i64 0, .int .i64 0, .int .i64 0, .int .i64 0, .int .i64 0, .int .i64 0, .slice none 0 0] HQ8 (by kernel_rfl) rfl (by simp [Value.oneCell']) ?_))
                (try simp only [Exit.inBlock, Exit.then])
                refine ret21 (w.heap.size + 1) #[.int .i64 1, .int .i64 sq, .int .i64 ep, .int .i64 ps, .int .i64 nm, .int .i64 y, .int .i64 x, .slice X (n - 14) xc] (.bool true) 28 ?_ ?_ ?_ ?_ ?_ ?_
                · rfl
                · rfl
                · rfl
                · rfl
                · exact setRow_heap _ _ _ _ _ _ HQ8
                refine ⟨.inl ⟨rfl, X, xc, ?_, ?_⟩, below_setRow hw8 (by omega) _⟩
                · rw [HREC.out, ← HLN.out]
                · rw [HREC.out]; exact HIMF.out _ _ hb8
        · have i4 : ¬ (n : Int) = 14 + (m : Int) := by omega
          have HNO := Lib.hid (show ¬ RdOk z d b from fun h => by
            have hl := HB.out
            rcases h.1.2 with ⟨-, -, k1⟩ | ⟨k1, -⟩
            · rw [HM.out] at k1; omega
            · exact k1 (HV.out.1.trans HK.out))
          go_upto_region 6 with fail
          go_wp2_with (refine wpList_store_row rfl 28 (.tmp 4) (.tmp 46) rfl (w.heap.size + 1) #[.int .i64 0, .int .i64 0, .int .i64 0, .int .i64 0, .int .i64 0, .int .i64 0, .int .i64 0, .slice none 0 0] rfl rfl 28 #[.int .i64 0, .int .i64 0, .int .i64 0, .int .i64 0, .int .i64 0, .int .i64 0, .int .i64 0, .slice none 0 0] HQ1 (by kernel_rfl) rfl (by simp [Value.oneCell']) ?_)
          (try simp only [Exit.inBlock, Exit.then])
          refine ret21 (w.heap.size + 1) #[.int .i64 0, .int .i64 0, .int .i64 0, .int .i64 0, .int .i64 0, .int .i64 0, .int .i64 0, .slice none 0 0] (.bool false) 28 ?_ ?_ ?_ ?_ ?_ ?_
          · rfl
          · rfl
          · rfl
          · rfl
          · exact setRow_heap _ _ _ _ _ _ HQ1
          refine ⟨.inr ⟨?_, rfl⟩, below_setRow hw1 (by omega) _⟩
          cases c
          · rfl
          · exact absurd (HC.out.1 rfl) HNO.out
    · have FF := f8_row HR
      obtain ⟨c0, c1, c2, c3, c4, c5, c6, c7⟩ := id FF.c
      have i2 : ¬ ((kd : Int) = 1) := by omega
      have HK := Lib.hid hk
      clear hk
      by_cases h11 : n = 11
      · have i3 : (n : Int) = 11 := by omega
        have HREC := Lib.hid (show recN b = ⟨kd, sq, ep, ps, nm, 0, 0, []⟩ by
          obtain ⟨e1, e2, e3, e4, e5⟩ := HV.out
          unfold recN
          rw [e1, e2, e3, e4, e5, if_neg HK.out])
        have HC2 := Lib.hid (show c = true ↔ RecOk z d ⟨kd, sq, ep, ps, nm, 0, 0, []⟩ by
          rw [HC.out, ← HREC.out]
          have hl := HB.out
          exact ⟨fun h => h.2, fun h => ⟨⟨by omega, .inr ⟨by rw [HV.out.1]; exact HK.out, by omega⟩⟩, h⟩⟩)
        have BI : BIn w1 w1.heap.size ⟨0, 0, none, 0, []⟩ := ⟨Sl.nil _ _ _, Nat.le_refl _, Nat.zero_le _⟩
        have HIM := Lib.hid BI
        have HLN := Lib.hid (show ([] : List UInt8).length = 0 from rfl)
        have HLM := Lib.hid (show 0 ≤ 1048576 by decide)
        clear BI h11
        have HIMF := Lib.hid (show ∀ (w8 : World) (cs : Array Value), Below w1.heap.size w1 w8 → BIn (w8.setRow (w.heap.size + 1) cs) (w8.setRow (w.heap.size + 1) cs).heap.size ⟨0, 0, none, 0, []⟩ from fun _ _ _ => ⟨Sl.nil _ _ _, Nat.le_refl _, Nat.zero_le _⟩)
        have HRF := Lib.hid (show Calls Try.prog 25 #[.agg #[.int .i64 z, .int .i64 d, .int .i64 s, .int .i64 l, .int .i64 a], .agg #[.int .i64 kd, .int .i64 sq, .int .i64 ep, .int .i64 ps, .int .i64 nm, .int .i64 0, .int .i64 0, .slice none 0 0]] w1 fun e w' => e = .returned (.bool c) ∧ Below w1.heap.size w1 w' from rrec_k c z d s l a (kd) (sq) (ep) (ps) (nm) (0) (0) (none) (0) ([]) 0 w1 HO.out HIM.out HLN.out HLM.out HC2.out)
        clear HC
        cases c
        · go_wp2_with (first | (go_at_call 25; (with_reducible refine HRF.out.mono ?_); rintro e w8 ⟨rfl, hb8⟩; have HQ8 := blk_next hb8 HQ1; have hw8 := bt hw1 hb8; obtain ⟨d0, d1, d2, d3, d4, d5, d6, d7⟩ := FF.c.keep hb8 l1) | (refine wpList_store_row rfl 28 (.tmp 4) (.tmp 74) rfl (w.heap.size + 1) #[.int .i64 0, .int .i64 0, .int .i64 0, .int .i64 0, .int .i64 0, .int .i64 0, .int .i64 0, .slice none 0 0] rfl rfl 28 #[.int .i64 0, .int .i64 0, .int .i64 0, .int .i64 0, .int .i64 0, .int .i64 0, .int .i64 0, .slice none 0 0] HQ8 (by kernel_rfl) rfl (by simp [Value.oneCell']) ?_))
          (try simp only [Exit.inBlock, Exit.then])
          refine ret21 (w.heap.size + 1) #[.int .i64 0, .int .i64 0, .int .i64 0, .int .i64 0, .int .i64 0, .int .i64 0, .int .i64 0, .slice none 0 0] (.bool false) 28 ?_ ?_ ?_ ?_ ?_ ?_
          · rfl
          · rfl
          · rfl
          · rfl
          · exact setRow_heap _ _ _ _ _ _ HQ8
          · exact ⟨.inr ⟨rfl, rfl⟩, below_setRow hw8 (by omega) _⟩
        · go_wp2_with (first | (go_at_call 25; (with_reducible refine HRF.out.mono ?_); rintro e w8 ⟨rfl, hb8⟩; have HQ8 := blk_next hb8 HQ1; have hw8 := bt hw1 hb8; obtain ⟨d0, d1, d2, d3, d4, d5, d6, d7⟩ := FF.c.keep hb8 l1) | (refine wpList_store_row rfl 28 (.tmp 4) (.tmp 75) rfl (w.heap.size + 1) #[.int .i64 kd, .int .i64 sq, .int .i64 ep, .int .i64 ps, .int .i64 nm, .int .i64 0, .int .i64 0, .slice none 0 0] rfl rfl 28 #[.int .i64 0, .int .i64 0, .int .i64 0, .int .i64 0, .int .i64 0, .int .i64 0, .int .i64 0, .slice none 0 0] HQ8 (by kernel_rfl) rfl (by simp [Value.oneCell']) ?_))
          (try simp only [Exit.inBlock, Exit.then])
          refine ret21 (w.heap.size + 1) #[.int .i64 kd, .int .i64 sq, .int .i64 ep, .int .i64 ps, .int .i64 nm, .int .i64 0, .int .i64 0, .slice none 0 0] (.bool true) 28 ?_ ?_ ?_ ?_ ?_ ?_
          · rfl
          · rfl
          · rfl
          · rfl
          · exact setRow_heap _ _ _ _ _ _ HQ8
          refine ⟨.inl ⟨rfl, none, 0, ?_, ?_⟩, below_setRow hw8 (by omega) _⟩
          · rw [HREC.out, ← HLN.out]
          · rw [HREC.out]; exact HIMF.out _ _ hb8
      · have i3 : ¬ (n : Int) = 11 := by omega
        go_upto_region 11 with fail
        have HNO := Lib.hid (show ¬ RdOk z d b from fun h => by
          have hl := HB.out
          have hk2 := HK.out
          rcases h.1.2 with ⟨k1, -⟩ | ⟨-, k2⟩
          · rw [HV.out.1] at k1; exact hk2 k1
          · omega)
        go_wp2_with (refine wpList_store_row rfl 28 (.tmp 4) (.tmp 69) rfl (w.heap.size + 1) #[.int .i64 0, .int .i64 0, .int .i64 0, .int .i64 0, .int .i64 0, .int .i64 0, .int .i64 0, .slice none 0 0] rfl rfl 28 #[.int .i64 0, .int .i64 0, .int .i64 0, .int .i64 0, .int .i64 0, .int .i64 0, .int .i64 0, .slice none 0 0] HQ1 (by kernel_rfl) rfl (by simp [Value.oneCell']) ?_)
        (try simp only [Exit.inBlock, Exit.then])
        refine ret21 (w.heap.size + 1) #[.int .i64 0, .int .i64 0, .int .i64 0, .int .i64 0, .int .i64 0, .int .i64 0, .int .i64 0, .slice none 0 0] (.bool false) 28 ?_ ?_ ?_ ?_ ?_ ?_
        · rfl
        · rfl
        · rfl
        · rfl
        · exact setRow_heap _ _ _ _ _ _ HQ1
        refine ⟨.inr ⟨?_, rfl⟩, below_setRow hw1 (by omega) _⟩
        cases c
        · rfl
        · exact absurd (HC.out.1 rfl) HNO.out
set_option maxRecDepth 100000 in
set_option maxHeartbeats 8000000 in
theorem rread_c (c : Bool) (z d s l a : Int) (A : Option Addr) (n cp : Nat) (b : List UInt8) (w : World) (ho : Ok z d s l a) (hb : b.length = n) (hcap : n ≤ cp ∧ cp ≤ maxLen) (hn2 : n ≤ 1048576) (hA : Sl w w.heap.size A b) (hc : c = true ↔ RdOk z d b) :
    Calls Try.prog 21 #[.agg #[.int .i64 z, .int .i64 d, .int .i64 s, .int .i64 l, .int .i64 a], .slice A n cp] w fun e w' => RdA c (recN b) e w' ∧ Below w.heap.size w w' := by
  by_cases hn : n < 11
  · obtain rfl : c = false := by
      cases c
      · rfl
      · exact absurd (hc.1 rfl).1.1 (by omega)
    exact rread_short z d s l a A n cp _ w hn
  · obtain ⟨g, off, rfl, -, -⟩ := id (hA (by omega))
    exact rread_long c z d s l a g off n cp b w ho hb (by omega) hcap hn2 hA hc
end Go.Proofs.Ytplhdnhigboeaaa.lrc
