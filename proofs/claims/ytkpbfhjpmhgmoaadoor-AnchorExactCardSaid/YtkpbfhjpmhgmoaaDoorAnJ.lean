/-
  What Unrow and label.Read come to, as anchor.parse calls them. Conditions: each law's own; 'ValidOk', 'Tabs' as package label's contracts ask.
-/
import Derived.Test.YtkpbfhjpmhgmoaaDoorAnM
import Derived.Test.YtkpbfhjpmhgmoaaDoorGPk
namespace Go.Proofs.YtkpbfhjpmhgmoaaDoor.anc
open Go.RowKit Go.Lib
open Go.Proofs.YtkpbfhjpmhgmoaaDoor.pck (le le_length num unrow behind behind_nil behind_next)
open Go.Proofs.YtkpbfhjpmhgmoaaDoor.lbl (encL readL labE lab_len ValidOk Tabs read_empty read_short read_any)

theorem behind_ok (l t : List Int) (r : List UInt8) : behind l (.ok (t, r)) = .ok (l ++ t, r) := rfl
theorem behind_err (l : List Int) (x : Int) : behind l (.error x) = .error x := rfl
theorem behind_two (a b : List Int) (r : Except Int (List Int × List UInt8)) : behind a (behind b r) = behind (a ++ b) r := by
  cases r with
  | ok p => simp [behind]
  | error x => rfl
theorem unrow_step (k : Nat) (s : Int) (ss : List Int) (b : List UInt8) (hs : s = 1 ∨ s = 2 ∨ s = 4) (hk : s = k) :
    unrow (s :: ss) b = if b.length < k then .error 4 else behind [(num (b.take k) : Int)] (unrow ss (b.drop k)) := by
  subst hk
  by_cases h : b.length < k
  · rw [unrow, if_pos hs, if_pos (by rw [Int.toNat_natCast]; exact h), if_pos h]
  · rw [if_neg h]
    have := behind_next (l := []) (ss := ss) (b := b) hs (by rw [Int.toNat_natCast]; exact h)
    rw [behind_nil, Int.toNat_natCast] at this
    exact this
theorem num_one_byte (x : UInt8) (b : List UInt8) : num ((x :: b).take 1) = x.toNat := by simp [num]
theorem unrow_ones (ss : List Int) : ∀ (k : Nat) (b : List UInt8), unrow (List.replicate k 1 ++ ss) b = if b.length < k then .error 4 else behind ((b.take k).map fun x => (x.toNat : Int)) (unrow ss (b.drop k))
  | 0, b => by
    rw [if_neg (by omega)]
    simp [behind_nil]
  | k + 1, [] => by
    rw [List.replicate_succ, List.cons_append, unrow_step 1 1 _ _ (.inl rfl) rfl]
    rfl
  | k + 1, x :: b => by
    rw [List.replicate_succ, List.cons_append, unrow_step 1 1 _ _ (.inl rfl) rfl, if_neg (by rw [List.length_cons]; omega), num_one_byte]
    rw [show (x :: b).drop 1 = b from rfl, unrow_ones ss k b]
    by_cases h : b.length < k
    · rw [if_pos h, if_pos (by rw [List.length_cons]; omega)]
      rfl
    · rw [if_neg h, if_neg (by rw [List.length_cons]; omega), behind_two]
      rfl
/-- A home's numbers. -/
def homeNs (h : Hom) : List Int := h.ps ++ [h.nx, h.rt]
theorem unrow_home (D : Nat) (b : List UInt8) : unrow (List.replicate (D + 2) 1 ++ [4]) b = if b.length < D + 6 then .error 4 else .ok (homeNs (homeN D b), b.drop (D + 6)) := by
  rw [unrow_ones]
  by_cases h : b.length < D + 2
  · rw [if_pos h, if_pos (by omega)]
  · rw [if_neg h, unrow_step 4 4 [] _ (.inr (.inr rfl)) rfl]
    by_cases h2 : b.length < D + 6
    · rw [if_pos (by rw [List.length_drop]; omega), if_pos h2]
      rfl
    · rw [if_neg (by rw [List.length_drop]; omega), if_neg h2]
      rw [show unrow [] ((b.drop (D + 2)).drop 4) = .ok ([], (b.drop (D + 2)).drop 4) from rfl, behind_ok, behind_ok, List.drop_drop]
      have e : (b.take (D + 2)).map (fun x => (x.toNat : Int)) = (b.take (D + 1)).map (fun x => (x.toNat : Int)) ++ [(num ((b.drop (D + 1)).take 1) : Int)] := by
        have hk : D + 1 < b.length := by omega
        rw [show D + 2 = D + 1 + 1 from rfl, List.take_succ_eq_append_getElem hk, List.map_append, List.drop_eq_getElem_cons hk, num_one_byte]
        rfl
      rw [e, List.append_assoc]
      rfl
theorem unrow_head (b : List UInt8) : unrow [4, 4, 4, 4, 1] b = if b.length < 17 then .error 4 else .ok ([(num (b.take 4) : Int), (num ((b.drop 4).take 4) : Int), (num ((b.drop 8).take 4) : Int), (num ((b.drop 12).take 4) : Int), (num ((b.drop 16).take 1) : Int)], b.drop 17) := by
  have h4 : (4 : Int) = 1 ∨ (4 : Int) = 2 ∨ (4 : Int) = 4 := .inr (.inr rfl)
  rw [unrow_step 4 4 _ _ h4 rfl, unrow_step 4 4 _ _ h4 rfl, unrow_step 4 4 _ _ h4 rfl, unrow_step 4 4 _ _ h4 rfl, unrow_step 1 1 _ _ (.inl rfl) rfl]
  simp only [List.drop_drop, List.length_drop, Nat.reduceAdd]
  by_cases h : b.length < 17
  · rw [if_pos h]
    by_cases g1 : b.length < 4
    · rw [if_pos g1]
    · rw [if_neg g1]
      by_cases g2 : b.length - 4 < 4
      · rw [if_pos g2]; rfl
      · rw [if_neg g2]
        by_cases g3 : b.length - 8 < 4
        · rw [if_pos g3]; rfl
        · rw [if_neg g3]
          by_cases g4 : b.length - 12 < 4
          · rw [if_pos g4]; rfl
          · rw [if_neg g4, if_pos (by omega)]; rfl
  · rw [if_neg h, if_neg (by omega), if_neg (by omega), if_neg (by omega), if_neg (by omega), if_neg (by omega)]
    rfl

/-- What label.Read answers of any bytes. -/
def LabR (l : List UInt8) (w : World) (e : Ending) (w' : World) : Prop :=
  (e = .returned (match readL l with | none => .tuple #[.string ⟨#[]⟩, .int .i64 0, .int .i64 4] | some t => .tuple #[.string ⟨t.toArray⟩, .int .i64 (1 + (t.length : Int)), .int .i64 0])) ∧ Below w.heap.size w w'
theorem labRead_any (hV : ValidOk) (l : List UInt8) (n : Nat) (A : Option Addr) (c B : Nat) (W : World) (hn : l.length = n) (hT : Tabs W) (hA : Sl W B A l) (hc : n ≤ c) (hm : c ≤ maxLen) :
    Calls Tryd.prog 56 #[.slice A n c] W (LabR l W) := by
  subst hn
  cases l with
  | nil => exact read_empty A c W
  | cons n r =>
    by_cases hn : r.length < n.toNat
    · refine (read_short A c B n r W hA hn).mono fun e w' h => ⟨?_, h.2⟩
      rw [show readL (n :: r) = none by unfold readL; simp only [if_pos hn]]
      exact h.1
    · have hl : (r.take n.toNat).length = n.toNat := by rw [List.length_take]; omega
      refine (read_any hV A c B n r W hT hA (by simpa using hc) hm (by omega)).mono ?_
      rintro e w' ⟨X, hX, hx, hb⟩
      have uq : X = ⟨(r.take n.toNat).toArray⟩ := by
        apply ByteArray.ext
        apply Array.ext'
        rw [hX]
      refine ⟨?_, hb⟩
      by_cases hE : labE (r.take n.toNat) = 0
      · rw [if_pos hE, uq] at hx
        rw [show readL (n :: r) = some (r.take n.toNat) by unfold readL; simp only [if_neg hn, if_pos hE]]
        simp only
        rw [hl]
        exact hx
      · rw [if_neg hE] at hx
        rw [show readL (n :: r) = none by unfold readL; simp only [if_neg hn, if_neg hE]]
        exact hx

/-- As Sl, and behind block lo. -/
def SlH (w : World) (lo : Nat) (A : Option Addr) (l : List UInt8) : Prop :=
  0 < l.length → ∃ b off, A = some ⟨b, off, none⟩ ∧ lo ≤ b ∧ b < w.heap.size ∧ ∀ j (h : j < l.length), w.cell? ⟨b, off + j, none⟩ = some (by8 l[j])
section
variable {w w' : World} {lo : Nat} {A : Option Addr} {l : List UInt8}
theorem SlH.sl (h : SlH w lo A l) : Sl w w.heap.size A l := fun hl => by
  obtain ⟨b, off, ha, -, hb, hc⟩ := h hl
  exact ⟨b, off, ha, hb, hc⟩
theorem SlH.below (h : SlH w lo A l) (hb : Below w.heap.size w w') : SlH w' lo A l := fun hl => by
  obtain ⟨b, off, ha, h1, h2, hc⟩ := h hl
  exact ⟨b, off, ha, h1, Nat.lt_of_lt_of_le h2 hb.size, fun j hj => (hb.cell (p := ⟨b, off + j, none⟩) h2).trans (hc j hj)⟩
theorem SlH.set (h : SlH w lo A l) {g o : Nat} (hg : g < lo) (v : Value) : SlH (w.setCell ⟨g, o, none⟩ v) lo A l := fun hl => by
  obtain ⟨b, off, ha, h1, h2, hc⟩ := h hl
  refine ⟨b, off, ha, h1, by simpa using h2, fun j hj => ?_⟩
  rw [World.cell?_setCell_other _ _ _ _ (fun e => by have := congrArg Addr.block e; simp at this; omega)]
  exact hc j hj
theorem SlH.drop {b off : Nat} (h : SlH w lo (some ⟨b, off, none⟩) l) (k : Nat) : SlH w lo (some ⟨b, off + k, none⟩) (l.drop k) := fun hl => by
  rw [List.length_drop] at hl
  obtain ⟨b', off', ha, h1, h2, hc⟩ := h (by omega)
  simp only [Option.some.injEq, Addr.mk.injEq, and_true] at ha
  obtain ⟨rfl, rfl⟩ := ha
  refine ⟨b, off + k, rfl, h1, h2, fun j hj => ?_⟩
  rw [List.length_drop] at hj
  rw [Nat.add_assoc, hc (k + j) (by omega), List.getElem_drop]
theorem SlH.nil (w : World) (lo : Nat) (A : Option Addr) : SlH w lo A [] := fun h => absurd h (by simp)
theorem own_slh {base q c : Nat} {e : TypeId} (h : Own w base e (.slice A q c) l) : SlH w base A l := by
  obtain ⟨A', c', hv, -, -, hs, ha⟩ := h.form
  simp only [Value.slice.injEq] at hv
  obtain ⟨rfl, -, -⟩ := hv
  exact fun hl => by
    obtain ⟨b, off, hb, h1, h2⟩ := hs hl
    exact ⟨b, off, hb, ha _ hb, h1, h2⟩
end
end Go.Proofs.YtkpbfhjpmhgmoaaDoor.anc
