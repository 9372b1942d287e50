/-
  Two cells of one's own; readings that say no block. Conditions: none.
-/
import Derived.Test.YtejfehkcjcohdaaEnD
namespace Go.Proofs.Ytejfehkcjcohdaa.ent
open Go.RowKit Go.Lib
open Go.Proofs.Ytejfehkcjcohdaa.gmt (Ok)
open Go.Proofs.Ytejfehkcjcohdaa.anc (bl kal kst ks bm ka)
open Go.Proofs.Ytejfehkcjcohdaa.sel (Three three_new Lies opened Opn no opened_err enc enc_opened open_any)
open Go.Proofs.Ytejfehkcjcohdaa.tbl (Ent EntOk entsN TV C1 c1_new G5 g5_new TbE)

/-- Two cells that may be written. -/
structure Duo (W : World) (g : Nat) (a b : Value) : Prop where
  c0 : W.cell? ⟨g, 0, none⟩ = some a
  c1 : W.cell? ⟨g, 1, none⟩ = some b
  f0 : W.frozen? ⟨g, 0, none⟩ = false
  f1 : W.frozen? ⟨g, 1, none⟩ = false
section
variable {W W' : World} {g : Nat} {a b : Value}
theorem duo_new (w : World) (a b : Value) (t : TypeId) : Duo (w.alloc (.cells #[a, b] t)) w.heap.size a b := by
  have h := heap_alloc_new w (.cells #[a, b] t)
  constructor <;> first | (rw [cell_of_row _ _ _ _ _ _ h]; rfl) | exact World.frozen?_alloc_new _ _ _ _
theorem Duo.keep {B : Nat} (h : Duo W g a b) (hb : Below B W W') (hg : g < B) : Duo W' g a b :=
  ⟨(hb.cell (p := ⟨g, 0, none⟩) hg).trans h.c0, (hb.cell (p := ⟨g, 1, none⟩) hg).trans h.c1, (hb.frozen (p := ⟨g, 0, none⟩) hg).trans h.f0, (hb.frozen (p := ⟨g, 1, none⟩) hg).trans h.f1⟩
theorem Duo.set0 (h : Duo W g a b) (v : Value) : Duo (W.setCell ⟨g, 0, none⟩ v) g v b := by
  refine ⟨World.cell?_setCell_same _ _ _ h.c0, ?_, ?_, ?_⟩
  · rw [World.cell?_setCell_other _ _ _ _ (by simp)]; exact h.c1
  · rw [World.frozen?_setCell]; exact h.f0
  · rw [World.frozen?_setCell]; exact h.f1
theorem Duo.set1 (h : Duo W g a b) (v : Value) : Duo (W.setCell ⟨g, 1, none⟩ v) g a v := by
  refine ⟨?_, World.cell?_setCell_same _ _ _ h.c1, ?_, ?_⟩
  · rw [World.cell?_setCell_other _ _ _ _ (by simp)]; exact h.c0
  · rw [World.frozen?_setCell]; exact h.f0
  · rw [World.frozen?_setCell]; exact h.f1
end
/-- No block. -/
theorem no_block (e addr st sm : Int) (ls : Bool) (X : Option Addr) (N x : Nat) (b : List UInt8) (w : World) (hN : b.length = N) (hx : N ≤ x) (hm : x ≤ maxLen) (hX : Sl w w.heap.size X b) (h : ¬ BlkB e b addr st sm) :
    Calls Try.prog 9 #[.agg #[.int .i64 e, .slice X N x], .int .i64 addr, .agg #[.int .i64 st, .int .i64 sm, .bool ls]] w fun e w' => BytB w.heap.size [] false e w' ∧ Below w.heap.size w w' :=
  block_c false e addr st sm ls X N x b w hN hx hm hX (iff_of_false Bool.false_ne_true h)
theorem own_next {w w' : World} {base : Nat} {e : TypeId} {v : Value} {l : List UInt8} (h : Own w base e v l) (hb : Below w.heap.size w w') : Own w' base e v l := h.below hb
/-- What a sealed cell with another stamp, another address, another length says; what turned bits say. -/
theorem no_other {a s addr st sm : Int} {l : List UInt8} (ha : 0 ≤ a ∧ a < 65536) (hs : 0 ≤ s ∧ s < 4294967296) (hl : l.length ≤ 96) (h : ¬ (a = addr ∧ s = st ∧ l.length = 8)) : ¬ BlkB 0 (enc a.toNat s.toNat l) addr st sm := by
  obtain ⟨k1, k2⟩ := say_enc (addr := addr) (st := st) ha hs hl
  intro hk
  have h1 := k2.1 hk.1
  have h2 := hk.2.1
  rw [k1] at h2
  exact h ⟨h1.1, h1.2, h2⟩
theorem no_err {e addr st : Int} {b : List UInt8} (h : e ≠ 0 ∨ (opened b).err ≠ 0) : ¬ SayB e b addr st := fun k => h.elim (fun h => h k.1) fun h => h k.2.1
theorem flip_no {a s : Nat} {l out : List UInt8} {bit msk : Int} (hl : l.length ≤ 96) (ht : crc.TurnedAll (enc a s l) out (sel.place bit (l.length + 11)) (sel.maskOf msk)) : (opened out).err ≠ 0 := by
  have hn : (enc a s l).length = l.length + 11 := sel.enc_length a s l
  rw [sel.opened_flipped (sel.enc_whole a s l) (by omega) (by omega) ht (by rw [hn]; exact sel.place_lt bit (by omega)) (sel.mask_lt msk) (sel.mask_odd msk)]
  decide
/-- Bits turned, the answer's place told. -/
theorem flip_c (A : Option Addr) (c n : Nat) (l : List UInt8) (bit msk : Int) (w : World) (hln : l.length = n) (hA : Sl w w.heap.size A l) (hl : n ≤ 1048576) :
    Calls Try.prog 20 #[.slice A n c, .int .i64 bit, .int .i64 msk] w fun e w' => (∃ out Y y, e = .returned (.slice Y n y) ∧ out.length = n ∧ crc.TurnedAll l out (sel.place bit n) (sel.maskOf msk) ∧ Own w' w.heap.size 5 (.slice Y n y) out) ∧ Below w.heap.size w w' := by
  refine (sel.flip_all A c _ n l bit msk w hln hA hl).mono ?_
  rintro e w' ⟨⟨out, ht, v, rfl, ho⟩, hb⟩
  obtain ⟨Y, y, hv, -, -, -, -⟩ := id ho.form
  have hol : out.length = n := ht.1.trans hln
  rw [hol] at hv
  subst hv
  exact ⟨⟨out, Y, y, rfl, hol, ht, ho⟩, hb⟩
theorem own_set {w : World} {base g o : Nat} {e : TypeId} {v : Value} {l : List UInt8} (h : Own w base e v l) (hg : g < base) (x : Value) : Own (w.setCell ⟨g, o, none⟩ x) base e v l :=
  ownsRow_setCell_other h (fun k => by have := (World.ownsRow.lt h g k).1; omega) x
/-- What block a sealed cell says, its bytes below a block. -/
theorem cell_s (c : Bool) (a s addr st sm : Int) (ls : Bool) (X : Option Addr) (N x : Nat) (l : List UInt8) (w : World) (ha : 0 ≤ a ∧ a < 65536) (hs : 0 ≤ s ∧ s < 4294967296) (hl : l.length ≤ 96) (hN : l.length + 11 = N) (hx : N ≤ x) (hm : x ≤ maxLen) (hX : Sl w w.heap.size X (enc a.toNat s.toNat l)) (hc : c = true ↔ a = addr ∧ s = st ∧ l.length = 8 ∧ ((crc.sum l : Nat) : Int) = sm) :
    Calls Try.prog 9 #[.agg #[.int .i64 0, .slice X N x], .int .i64 addr, .agg #[.int .i64 st, .int .i64 sm, .bool ls]] w fun e w' => BytB w.heap.size (part c l) c e w' ∧ Below w.heap.size w w' := by
  obtain ⟨k1, k2⟩ := say_enc (addr := addr) (st := st) ha hs hl
  have h9 := block_c c 0 addr st sm ls X N x _ w ((sel.enc_length _ _ _).trans hN) hx hm hX (by unfold BlkB; rw [k1, k2, hc, and_assoc])
  rw [k1] at h9
  exact h9
end Go.Proofs.Ytejfehkcjcohdaa.ent
