/-
  The law NewestLeft: what was written to all anchors is picked as long as one of them is left. Conditions: 'Cts'.
-/
import Derived.Test.YtdjleimndolonaaDoorNwLB
import Derived.Test.YtdjleimndolonaaDoorNwLA
namespace Go.Proofs.YtdjleimndolonaaDoor.nwt
open Go.RowKit Go.Lib
open Go.Proofs.YtdjleimndolonaaDoor.gmt (Ok five_new rgeo_at)
open Go.Proofs.YtdjleimndolonaaDoor.anc (bl kal kst ks bm ka Anc noAnc AV noAV noAV_own encA RdQ ac_new AC G5 g5_new sev_new heavy_any HeavyA light right_p anchor_any Sev wpList_row)
open Go.Proofs.YtdjleimndolonaaDoor.sel (Lies enc enc_inj enc_length enc_first enc_whole opened_flipped place_lt mask_lt mask_odd ref_flip_all place maskOf)
open Go.Proofs.YtdjleimndolonaaDoor.crc (TurnedAll)
open Go.Proofs.YtdjleimndolonaaDoor.pck (num)

/-- The two cells of a reading, which may be written. -/
structure GotC (W : World) (g : Nat) (a b : Value) : Prop where
  c0 : W.cell? ⟨g, 0, none⟩ = some a
  c1 : W.cell? ⟨g, 1, none⟩ = some b
  f0 : W.frozen? ⟨g, 0, none⟩ = false
  f1 : W.frozen? ⟨g, 1, none⟩ = false
section
variable {W W' : World} {g : Nat} {a b : Value}
theorem gotC_new (w : World) (a b : Value) (t : TypeId) : GotC (w.alloc (.cells #[a, b] t)) w.heap.size a b := by
  have h := heap_alloc_new w (.cells #[a, b] t)
  constructor <;> first | (rw [cell_of_row _ _ _ _ _ _ h]; rfl) | exact World.frozen?_alloc_new _ _ _ _
theorem GotC.keep {B : Nat} (h : GotC W g a b) (hb : Below B W W') (hg : g < B) : GotC W' g a b :=
  ⟨(hb.cell (p := ⟨g, 0, none⟩) hg).trans h.c0, (hb.cell (p := ⟨g, 1, none⟩) hg).trans h.c1, (hb.frozen (p := ⟨g, 0, none⟩) hg).trans h.f0, (hb.frozen (p := ⟨g, 1, none⟩) hg).trans h.f1⟩
theorem GotC.set1 (h : GotC W g a b) (v : Value) : GotC (W.setCell ⟨g, 1, none⟩ v) g a v := by
  refine ⟨?_, World.cell?_setCell_same _ _ _ h.c1, ?_, ?_⟩
  · rw [World.cell?_setCell_other _ _ _ _ (by simp)]; exact h.c0
  · rw [World.frozen?_setCell]; exact h.f0
  · rw [World.frozen?_setCell]; exact h.f1
theorem GotC.set0 (h : GotC W g a b) (v : Value) : GotC (W.setCell ⟨g, 0, none⟩ v) g v b := by
  refine ⟨World.cell?_setCell_same _ _ _ h.c0, ?_, ?_, ?_⟩
  · rw [World.cell?_setCell_other _ _ _ _ (by simp)]; exact h.c1
  · rw [World.frozen?_setCell]; exact h.f0
  · rw [World.frozen?_setCell]; exact h.f1
end
theorem own_set_low {w : World} {base g o : Nat} {e : TypeId} {v : Value} {l : List UInt8} (h : Own w base e v l) (hg : g < base) (x : Value) : Own (w.setCell ⟨g, o, none⟩ x) base e v l :=
  ownsRow_setCell_other h (fun k => by have := (World.ownsRow.lt h g k).1; omega) x
theorem own_cut {w : World} {base q c : Nat} {e : TypeId} {X : Option Addr} {l : List UInt8} (h : Own w base e (.slice X q c) l) (h0 : 0 < q) : Own w base e (.slice X (q - 1) c) (l.take (q - 1)) := by
  obtain ⟨A, c', hv, h1, h2, -, -⟩ := h.form
  simp only [Value.slice.injEq] at hv
  obtain ⟨-, hq, -⟩ := hv
  rcases h.2 with ⟨hv, hn⟩ | ⟨g, cap, cur, hv, hb, hg, hc, hm, hcs, htk⟩
  · simp only [Value.slice.injEq] at hv
    omega
  · simp only [Value.slice.injEq] at hv
    obtain ⟨rfl, -, rfl⟩ := hv
    have hlt : (l.take (q - 1)).length = q - 1 := by rw [List.length_take]; omega
    refine ⟨?_, .inr ⟨g, c, cur, ?_, hb, hg, by omega, hm, hcs, ?_⟩⟩
    · simp [cells8]
    · rw [hlt]
    · have e1 : cells8 (l.take (q - 1)) = (cells8 l).take (q - 1) := by simp [cells8, List.map_take]
      rw [e1, ← htk, List.take_take, hlt]
      congr 1
      omega
/-- Of readings of which q are left, all that say anything say X. -/
def Lft (z d s l : Int) (X : Anc) (rs : List GotR) (q : Nat) : Prop := (∀ j Y, sayAt z d s l (gds rs) j = some Y → Y = X) ∧ (q = 0 → ∀ j, sayAt z d s l (gds rs) j = none) ∧ (q ≠ 0 → ∃ j, j < rs.length ∧ sayAt z d s l (gds rs) j = some X)
theorem say_out {z d s l : Int} {ds : List (Int × List UInt8)} {j : Nat} (h : ds.length ≤ j) : sayAt z d s l ds j = none := by
  unfold sayAt
  rw [List.getElem?_eq_none h]
theorem lft_nil (z d s l : Int) (X : Anc) : Lft z d s l X [] 0 := by
  have h : ∀ j, sayAt z d s l (gds []) j = none := fun j => say_out (by simp [gds])
  exact ⟨fun j Y hY => (by rw [h j] at hY; cases hY), fun _ => h, fun h0 => absurd rfl h0⟩
theorem say_more {z d s l : Int} {rs : List GotR} {r : GotR} {j : Nat} (h : j < rs.length) : sayAt z d s l (gds (rs ++ [r])) j = sayAt z d s l (gds rs) j := by
  unfold sayAt
  rw [gds_append, List.getElem?_append_left (by rw [gds_length]; exact h)]
theorem say_last {z d s l : Int} {rs : List GotR} {r : GotR} : sayAt z d s l (gds (rs ++ [r])) rs.length = sayO z d s l r.e r.l (rs.length : Int) := by
  refine sayAt_get (x := r.d) ?_
  rw [gds_append, List.getElem?_append_right (by rw [gds_length]; exact Nat.le_refl _), gds_length, Nat.sub_self]
  rfl
theorem lft_next {z d s l : Int} {X : Anc} {rs : List GotR} {r : GotR} {q q' k : Nat} (h : Lft z d s l X rs q) (hk : rs.length = k) (hr : (sayO z d s l r.e r.l (k : Int) = none ∧ q' = q) ∨ (sayO z d s l r.e r.l (k : Int) = some X ∧ q' = q + 1)) : Lft z d s l X (rs ++ [r]) q' := by
  subst hk
  have hlen : (rs ++ [r]).length = rs.length + 1 := by simp
  have split : ∀ j, sayAt z d s l (gds (rs ++ [r])) j = none ∨ (j < rs.length ∧ sayAt z d s l (gds (rs ++ [r])) j = sayAt z d s l (gds rs) j) ∨ (j = rs.length ∧ sayAt z d s l (gds (rs ++ [r])) j = sayO z d s l r.e r.l (rs.length : Int)) := fun j => by
    rcases Nat.lt_trichotomy j rs.length with h1 | h1 | h1
    · exact .inr (.inl ⟨h1, say_more h1⟩)
    · subst h1
      exact .inr (.inr ⟨rfl, say_last⟩)
    · exact .inl (say_out (by rw [gds_length, hlen]; omega))
  refine ⟨fun j Y hY => ?_, fun h0 j => ?_, fun h0 => ?_⟩
  · rcases split j with e | ⟨-, e⟩ | ⟨-, e⟩
    · rw [e] at hY; cases hY
    · rw [e] at hY; exact h.1 j Y hY
    · rw [e] at hY
      rcases hr with ⟨e2, -⟩ | ⟨e2, -⟩
      · rw [e2] at hY; cases hY
      · rw [e2] at hY; exact (Option.some.inj hY).symm
  · rcases hr with ⟨e2, hq⟩ | ⟨-, hq⟩
    · rcases split j with e | ⟨-, e⟩ | ⟨-, e⟩
      · exact e
      · rw [e]; exact h.2.1 (by omega) j
      · rw [e]; exact e2
    · omega
  · rcases hr with ⟨-, hq⟩ | ⟨e2, -⟩
    · obtain ⟨j, hj, e⟩ := h.2.2 (by omega)
      exact ⟨j, by omega, by rw [say_more hj]; exact e⟩
    · exact ⟨rs.length, by omega, by rw [say_last]; exact e2⟩
theorem lft_newN {z d s l : Int} {X : Anc} {rs : List GotR} {q k : Nat} (h : Lft z d s l X rs q) (hk : rs.length = k) : (q = 0 ∧ newN (sayAt z d s l (gds rs)) k = none) ∨ (q ≠ 0 ∧ ∃ i, i < k ∧ newN (sayAt z d s l (gds rs)) k = some (X, i)) := by
  by_cases h0 : q = 0
  · exact .inl ⟨h0, newN_none.2 fun i _ => h.2.1 h0 i⟩
  · refine .inr ⟨h0, ?_⟩
    obtain ⟨j, hj, e⟩ := h.2.2 h0
    cases hn : newN (sayAt z d s l (gds rs)) k with
    | none =>
      have := newN_none.1 hn j (by omega)
      rw [e] at this
      cases this
    | some p =>
      obtain ⟨Y, i⟩ := p
      obtain ⟨hi, e2⟩ := newN_lt hn
      rw [h.1 i Y e2]
      exact ⟨i, hi, rfl⟩
/-- Bytes with bits turned say nothing; nor do those that lack their last. -/
theorem says_turned {z d s l a : Int} {X : Anc} {i : Nat} {bit msk : Int} {out : List UInt8} {addr : Int} (ho : Ok z d s l a) (hg : anc.Good z d s l X) (ht : TurnedAll (enc i X.gen.toNat (encA X)) out (place bit (enc i X.gen.toNat (encA X)).length) (maskOf msk)) : sayO z d s l 0 out addr = none := sayO_none fun Y h => by
  obtain ⟨p1, -, -, -⟩ := enc96 ho hg
  have hl := enc_length i X.gen.toNat (encA X)
  have h1 := opened_flipped (enc_whole i X.gen.toNat (encA X)) (by omega) (by omega) ht (place_lt bit (by omega)) (mask_lt msk) (mask_odd msk)
  have h2 := ((says_opened ho).1 h).1
  rw [h1] at h2
  cases h2
theorem says_cut {z d s l a : Int} {X : Anc} {i S : Nat} {addr : Int} {q : Nat} (ho : Ok z d s l a) (hg : anc.Good z d s l X) (hq : (enc i S (encA X)).length = q) : sayO z d s l 0 ((enc i S (encA X)).take (q - 1)) addr = none := sayO_none fun Y h => by
  obtain ⟨-, -, -, h3, h4⟩ := h
  obtain ⟨p1, -, -, -⟩ := enc96 ho hg
  obtain ⟨q1, -, -, -⟩ := enc96 ho h3
  have hl := enc_length i S (encA X)
  have hl2 := enc_length addr.toNat Y.gen.toNat (encA Y)
  have e1 := congrArg List.length h4
  rw [List.length_take] at e1
  have e2 := congrArg (fun b => num (b.take 1)) h4
  simp only [List.take_take] at e2
  rw [show min 1 (q - 1) = 1 by omega, enc_first i S (by omega), enc_first addr.toNat Y.gen.toNat (by omega)] at e2
  omega
/-- The document's Flip of bytes of one's own. -/
def FlpQ (base p : Nat) (M : List UInt8) (bit msk : Int) (e : Ending) (w' : World) : Prop := ∃ (out : List UInt8) (Z : Option Addr) (zc : Nat), e = .returned (.slice Z p zc) ∧ Own w' base 5 (.slice Z p zc) out ∧ TurnedAll M out (place bit p) (maskOf msk) ∧ out.length = p
theorem flip_q {X : Option Addr} {p y base : Nat} {M : List UInt8} {W : World} (hM : M.length = p) (hs : Own W base 5 (.slice X p y) M) (hl : p ≤ 1048576) (bit msk : Int) :
    Calls Tryd.prog 22 #[.slice X p y, .int .i64 bit, .int .i64 msk] W fun e w' => FlpQ W.heap.size p M bit msk e w' ∧ Below W.heap.size W w' := by
  refine (ref_flip_all X y _ p M bit msk W hM (own_ly hs).2.2 hl).mono ?_
  rintro e w' ⟨⟨out, ht, v, rfl, ho⟩, hb⟩
  have hlen : out.length = p := ht.1.trans hM
  obtain ⟨Z, zc, rfl, -, -, -, -⟩ := ho.form
  rw [hlen] at ho ⊢
  exact ⟨⟨out, Z, zc, rfl, ho, ht, hlen⟩, hb⟩
end Go.Proofs.YtdjleimndolonaaDoor.nwt
