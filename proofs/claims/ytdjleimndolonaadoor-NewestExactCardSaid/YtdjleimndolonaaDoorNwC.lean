/-
  A cell, an anchor's cell, by the document. Conditions: a right geometry, a right anchor.
-/
import Derived.Test.YtdjleimndolonaaDoorNwN
namespace Go.Proofs.YtdjleimndolonaaDoor.nwt
open Go.RowKit Go.Lib
open Go.Proofs.YtdjleimndolonaaDoor.gmt (Ok)
open Go.Proofs.YtdjleimndolonaaDoor.anc (bl kal kst ks bm ka Anc noAnc AV encA ac_new AC rbytes_any)
open Go.Proofs.YtdjleimndolonaaDoor.sel (Lies enc ref_seal)

/-- Bytes that are told: q of them. -/
def BytA (q : Nat) (l : List UInt8) (e : Ending) (w' : World) : Prop := ∃ (X : Option Addr) (x : Nat), e = .returned (.slice X q x) ∧ Lies w' X x l
set_option maxRecDepth 100000 in
set_option maxHeartbeats 8000000 in
theorem rcell_any (a s n c : Nat) (A : Option Addr) (l : List UInt8) (w : World) (ha : a < 65536) (hs : s < 4294967296) (hln : l.length = n) (hn : n ≤ 96) (hA : Sl w w.heap.size A l) :
    Calls Tryd.prog 25 #[.int .i64 a, .int .i64 s, .slice A n c] w fun e w' => BytA (n + 11) (enc a s l) e w' ∧ Below w.heap.size w w' := by
  have HS := Lib.hid (ref_seal a s n c A l w ha hs hln hn hA)
  clear hA hln
  go_enter Tryd.func25, Tryd.ntmps25
  go_wp2_with (go_at_call 41; (with_reducible refine HS.out.mono ?_); rintro e w1 ⟨⟨X, x, rfl, hx⟩, hb1⟩)
  go_ret
  exact ⟨⟨X, x, rfl, hx⟩, hb1⟩
set_option maxRecDepth 100000 in
set_option maxHeartbeats 8000000 in
theorem ranchor_cell (z d s l a : Int) (x : AV) (i : Nat) (w : World) (ho : Ok z d s l a) (hx : x.In w w.heap.size) (hg : anc.Good z d s l x.d) (hi : i < 65536) :
    Calls Tryd.prog 21 #[x.v, .int .i64 i] w fun e w' => BytA ((encA x.d).length + 11) (enc i x.gen.toNat (encA x.d)) e w' ∧ Below w.heap.size w w' := by
  obtain ⟨h96, -, hg0, hg1⟩ := enc96 ho hg
  have hgen : x.d.gen = x.gen := rfl
  rw [hgen] at hg0 hg1
  have FF := ac_new w x
  have hb0 := bl w (.cells #[.int .i64 x.gen, .int .i64 x.ep, .int .i64 x.pos, .int .i64 x.seq, .int .i64 x.last, .string x.lab, .slice x.HA x.hs.length x.hc] 31)
  have l0 : w.heap.size < (w.alloc (.cells #[.int .i64 x.gen, .int .i64 x.ep, .int .i64 x.pos, .int .i64 x.seq, .int .i64 x.last, .string x.lab, .slice x.HA x.hs.length x.hc] 31)).heap.size := by simp
  have HAB := Lib.hid (show ∀ W, Below w.heap.size w W → Calls Tryd.prog 26 #[x.v] W fun e w' => One W.heap.size (encA x.d) e w' ∧ Below W.heap.size W w' from fun W hW => rbytes_any z d s l a x W ho (hx.next hW) hg)
  have HCE := Lib.hid (show ∀ (W : World) (A : Option Addr) (c : Nat), Sl W W.heap.size A (encA x.d) → Calls Tryd.prog 25 #[.int .i64 i, .int .i64 x.gen, .slice A (encA x.d).length c] W fun e w' => BytA ((encA x.d).length + 11) (enc i x.gen.toNat (encA x.d)) e w' ∧ Below W.heap.size W w' from fun W A c h => by
    have h9 := rcell_any i x.gen.toNat (encA x.d).length c A (encA x.d) W hi (by omega) rfl h96 h
    rwa [Int.toNat_of_nonneg hg0] at h9)
  unfold AV.v at HAB ⊢
  clear hg hx ho hgen h96
  go_enter Tryd.func21, Tryd.ntmps21
  go_upto_region 1 with fail
  generalize w.alloc (.cells #[.int .i64 x.gen, .int .i64 x.ep, .int .i64 x.pos, .int .i64 x.seq, .int .i64 x.last, .string x.lab, .slice x.HA x.hs.length x.hc] 31) = w0 at *
  have HF := Lib.hid (show ∀ W, Below w0.heap.size w0 W → W.cell? ⟨w.heap.size, 0, none⟩ = some (.int .i64 x.gen) ∧ W.cell? ⟨w.heap.size, 1, none⟩ = some (.int .i64 x.ep) ∧ W.cell? ⟨w.heap.size, 2, none⟩ = some (.int .i64 x.pos) ∧ W.cell? ⟨w.heap.size, 3, none⟩ = some (.int .i64 x.seq) ∧ W.cell? ⟨w.heap.size, 4, none⟩ = some (.int .i64 x.last) ∧ W.cell? ⟨w.heap.size, 5, none⟩ = some (.string x.lab) ∧ W.cell? ⟨w.heap.size, 6, none⟩ = some (.slice x.HA x.hs.length x.hc) ∧ Below w0.heap.size w0 W from fun W h => by
    obtain ⟨c0, c1, c2, c3, c4, c5, c6⟩ := FF.keep h l0
    exact ⟨c0, c1, c2, c3, c4, c5, c6, h⟩)
  clear FF
  go_region_held3 (fun W => W.cell? ⟨w.heap.size, 0, none⟩ = some (.int .i64 x.gen) ∧ W.cell? ⟨w.heap.size, 1, none⟩ = some (.int .i64 x.ep) ∧ W.cell? ⟨w.heap.size, 2, none⟩ = some (.int .i64 x.pos) ∧ W.cell? ⟨w.heap.size, 3, none⟩ = some (.int .i64 x.seq) ∧ W.cell? ⟨w.heap.size, 4, none⟩ = some (.int .i64 x.last) ∧ W.cell? ⟨w.heap.size, 5, none⟩ = some (.string x.lab) ∧ W.cell? ⟨w.heap.size, 6, none⟩ = some (.slice x.HA x.hs.length x.hc) ∧ Below w0.heap.size w0 W)
    ((refine HF.out _ ?_; first
      | with_reducible exact hb2
      | with_reducible exact hb1
      | with_reducible exact below_dr (Below.refl _ _)
      | fail))
    (first
      | (go_at_call 26; (with_reducible refine (HAB.out _ (bt hb0 (below_dr (Below.refl _ _)))).mono ?_); rintro e w1 ⟨⟨v1, rfl, o1⟩, hbq⟩; obtain ⟨X1, x1, hv1, -, -, hs1, -⟩ := o1.form; subst hv1; have hb1 := bt (below_dr (Below.refl w0.heap.size w0)) hbq; clear hbq)
      | (go_at_call 25; (with_reducible refine (HCE.out _ _ _ hs1).mono ?_); rintro e w2 ⟨⟨X2, x2, rfl, hl2⟩, hbq⟩; have hb2 := bt hb1 hbq; clear hbq)
      | fail)
  go_wp2_with fail
  go_ret
  exact ⟨⟨X2, x2, rfl, hl2⟩, bt hb0 hb2⟩
end Go.Proofs.YtdjleimndolonaaDoor.nwt
