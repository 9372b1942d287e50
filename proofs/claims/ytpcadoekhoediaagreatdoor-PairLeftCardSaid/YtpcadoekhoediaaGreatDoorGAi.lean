/-
  anchor.Bytes: an anchor's bytes. Conditions: rows shorter than 2^20; what label.Check and label.Bytes answer of its label is given.
  What Unrow and label.Read come to, as anchor.parse calls them. Conditions: each law's own; 'ValidOk', 'Tabs' as package label's contracts ask.
-/
import Derived.Test.YtpcadoekhoediaaGreatDoorGAc
import Derived.Test.YtpcadoekhoediaaGreatDoorGAm
import Derived.Test.YtpcadoekhoediaaGreatDoorGPk
import Derived.Deep.RegionHeld3
namespace Go.Proofs.YtpcadoekhoediaaGreatDoor.anc
open Go.RowKit Go.Lib
open Go.Proofs.YtpcadoekhoediaaGreatDoor.gmt (Ok five_new check_ok check_no)
open Go.Proofs.YtpcadoekhoediaaGreatDoor.pck (le le_length AllFit Fits Sz bytesOf Rowed)
open Go.Proofs.YtpcadoekhoediaaGreatDoor.lbl (encL labE SliceAns lab_len)

/-- A slice of bytes made: q of them, no error. -/
def PutQ (base q : Nat) (l : List UInt8) (e : Ending) (w' : World) : Prop := ∃ X c, e = .returned (.tuple #[.slice X q c, .int .i64 0]) ∧ l.length = q ∧ Own w' base 5 (.slice X q c) l
theorem putq_of {w : World} {base q : Nat} {v : Value} {l : List UInt8} (h : Own w base 5 v l) (hq : l.length = q) : PutQ base q l (.returned (.tuple #[v, .int .i64 0])) w := by
  obtain ⟨A, c, rfl, -⟩ := h.form
  rw [hq] at h ⊢
  exact ⟨A, c, rfl, hq, h⟩
theorem fit4 {n : Int} (h : 0 ≤ n ∧ n ≤ 4294967295) : Fits n 4 := ⟨4, n.toNat, rfl, by omega, .inr (.inr rfl), by omega⟩
theorem fit1 {n : Int} (h : 0 ≤ n ∧ n ≤ 255) : Fits n 1 := ⟨1, n.toNat, rfl, by omega, .inl rfl, by omega⟩
theorem allfit_cons {p : Int × Int} {l : List (Int × Int)} (h : Fits p.1 p.2) (k : AllFit l) : AllFit (p :: l) := fun q hq => by
  rcases List.mem_cons.1 hq with rfl | hq
  · exact h
  · exact k q hq
theorem allfit_nil : AllFit [] := fun q hq => by cases hq
theorem head_fit {a : Anc} (h1 : 0 ≤ a.gen ∧ a.gen ≤ 4294967295) (h2 : 0 ≤ a.ep ∧ a.ep ≤ 4294967295) (h3 : 0 ≤ a.seq ∧ a.seq ≤ 4294967295) (h4 : 0 ≤ a.last ∧ a.last ≤ 4294967295) (h5 : 0 ≤ a.pos ∧ a.pos ≤ 255) :
    AllFit ([a.gen, a.ep, a.seq, a.last, a.pos].zip [4, 4, 4, 4, 1]) := allfit_cons (fit4 h1) (allfit_cons (fit4 h2) (allfit_cons (fit4 h3) (allfit_cons (fit4 h4) (allfit_cons (fit1 h5) allfit_nil))))
theorem head_bytes (a : Anc) : bytesOf ([a.gen, a.ep, a.seq, a.last, a.pos].zip [4, 4, 4, 4, 1]) = encN a := by
  simp [bytesOf, encN]
theorem zip_ones (D : Nat) (t : List Int) : ∀ (k : Nat) (ps : List Int), ps.length = k → (ps ++ t).zip (List.replicate k 1 ++ [1, 4]) = (ps.map fun p => (p, (1 : Int))) ++ t.zip [1, 4]
  | 0, ps, h => by
    obtain rfl := List.eq_nil_of_length_eq_zero h
    rfl
  | k + 1, [], h => by cases h
  | k + 1, p :: ps, h => by
    rw [List.replicate_succ, List.cons_append, List.cons_append, List.zip_cons_cons, zip_ones D t k ps (by simpa using h)]
    rfl
theorem sizes_eq (D : Nat) : List.replicate (D + 2) (1 : Int) ++ [4] = List.replicate (D + 1) 1 ++ [1, 4] := by
  rw [List.replicate_succ', List.append_assoc]
  rfl
theorem home_fit {D : Nat} {h : Hom} (hb : HomB D h) : AllFit ((h.ps ++ [h.nx, h.rt]).zip (List.replicate (D + 2) 1 ++ [4])) := by
  obtain ⟨h1, h2, h3, h4⟩ := hb
  rw [sizes_eq, zip_ones D _ _ _ h1]
  intro q hq
  rcases List.mem_append.1 hq with hq | hq
  · obtain ⟨p, hp, rfl⟩ := List.mem_map.1 hq
    have := h2 p hp
    exact fit1 ⟨this.1, by omega⟩
  · exact allfit_cons (fit1 ⟨h3.1, by omega⟩) (allfit_cons (fit4 ⟨h4.1, by omega⟩) allfit_nil) q hq
theorem home_bytes {D : Nat} {h : Hom} (hb : HomB D h) : bytesOf ((h.ps ++ [h.nx, h.rt]).zip (List.replicate (D + 2) 1 ++ [4])) = encH h := by
  obtain ⟨h1, -⟩ := hb
  rw [sizes_eq, zip_ones D _ _ _ h1]
  unfold bytesOf encH
  rw [List.flatMap_append]
  congr 1
  rw [List.flatMap_map]
  rfl
theorem slv_own {w : World} {base n c : Nat} {e : TypeId} {A : Option Addr} {l : List Int} (h : OwnV w base e (.slice A n c) (ints l)) : SlV w w.heap.size A (ints l) := by
  obtain ⟨A', c', hv, -, -, hs, -⟩ := h.form
  simp only [Value.slice.injEq] at hv
  obtain ⟨rfl, -, -⟩ := hv
  exact hs

theorem own_q {w : World} {base q : Nat} {e : TypeId} {v : Value} {l : List UInt8} (h : Own w base e v l) (hq : l.length = q) : ∃ X c, v = .slice X q c ∧ Own w base e (.slice X q c) l := by
  obtain ⟨A, c, rfl, -⟩ := h.form
  rw [hq] at h ⊢
  exact ⟨A, c, rfl, h⟩
theorem ownI_q {w : World} {base q : Nat} {e : TypeId} {v : Value} {l : List Int} (h : OwnV w base e v (ints l)) (hq : l.length = q) : ∃ X c, v = .slice X q c ∧ OwnV w base e (.slice X q c) (ints l) := by
  obtain ⟨A, c, rfl, -⟩ := h.form
  rw [ints_length, hq] at h ⊢
  exact ⟨A, c, rfl, h⟩
/-- Two rows of one's own, the second one made after the first: two blocks. -/
theorem apart_lt {W1 W2 : World} {b1 b2 : Nat} {e1 e2 : TypeId} {v1 v2 : Value} {l1 l2 : List Value} (h1 : OwnV W1 b1 e1 v1 l1) (h2 : OwnV W2 b2 e2 v2 l2) (hb : W1.heap.size ≤ b2) : v1.ownBlock = none ∨ v1.ownBlock ≠ v2.ownBlock := by
  cases hv : v1.ownBlock with
  | none => exact .inl rfl
  | some g =>
    right
    intro he
    have k1 := (World.ownsRow.lt h1 g hv).2
    have k2 := (World.ownsRow.lt h2 g he.symm).1
    omega
theorem apart_gt {W1 W2 : World} {b1 b2 : Nat} {e1 e2 : TypeId} {v1 v2 : Value} {l1 l2 : List Value} (h1 : OwnV W1 b1 e1 v1 l1) (h2 : OwnV W2 b2 e2 v2 l2) (hb : W1.heap.size ≤ b2) : v2.ownBlock = none ∨ v2.ownBlock ≠ v1.ownBlock := by
  rcases apart_lt h1 h2 hb with h | h
  · cases hv : v2.ownBlock with
    | none => exact .inl rfl
    | some g =>
      right
      rw [h]
      exact fun k => by cases k
  · exact .inr (Ne.symm h)
end Go.Proofs.YtpcadoekhoediaaGreatDoor.anc

namespace Go.Proofs.YtpcadoekhoediaaGreatDoor.anc
open Go.RowKit Go.Lib
open Go.Proofs.YtpcadoekhoediaaGreatDoor.pck (le le_length num unrow behind behind_nil behind_next)
open Go.Proofs.YtpcadoekhoediaaGreatDoor.lbl (encL readL labE lab_len ValidOk Tabs)

theorem behind_ok (l t : List Int) (r : List UInt8) : behind l (.ok (t, r)) = .ok (l ++ t, r) := rfl
theorem behind_err (l : List Int) (x : Int) : behind l (.error x) = .error x := rfl
theorem behind_two (a b : List Int) (r : Except Int (List Int × List UInt8)) : behind a (behind b r) = behind (a ++ b) r := by
  cases r with
  | ok p => simp [behind]
  | error x => rfl
theorem unrow_step (k : Nat) (s : Int) (ss : List Int) (b : List UInt8) (hs : s = 1 ∨ s = 2 ∨ s = 4) (hk : s = k) :
    unrow (s :: ss) b = if b.length < k then .error 4 else behind [(num (b.take k) : Int)] (unrow ss (b.drop k)) := by
  subst hk
  by_cases h : b.length < k
  · rw [unrow, if_pos hs, if_pos (by rw [Int.toNat_natCast]; exact h), if_pos h]
  · rw [if_neg h]
    have := behind_next (l := []) (ss := ss) (b := b) hs (by rw [Int.toNat_natCast]; exact h)
    rw [behind_nil, Int.toNat_natCast] at this
    exact this
theorem num_one_byte (x : UInt8) (b : List UInt8) : num ((x :: b).take 1) = x.toNat := by simp [num]
theorem unrow_ones (ss : List Int) : ∀ (k : Nat) (b : List UInt8), unrow (List.replicate k 1 ++ ss) b = if b.length < k then .error 4 else behind ((b.take k).map fun x => (x.toNat : Int)) (unrow ss (b.drop k))
  | 0, b => by
    rw [if_neg (by omega)]
    simp [behind_nil]
  | k + 1, [] => by
    rw [List.replicate_succ, List.cons_append, unrow_step 1 1 _ _ (.inl rfl) rfl]
    rfl
  | k + 1, x :: b => by
    rw [List.replicate_succ, List.cons_append, unrow_step 1 1 _ _ (.inl rfl) rfl, if_neg (by rw [List.length_cons]; omega), num_one_byte]
    rw [show (x :: b).drop 1 = b from rfl, unrow_ones ss k b]
    by_cases h : b.length < k
    · rw [if_pos h, if_pos (by rw [List.length_cons]; omega)]
      rfl
    · rw [if_neg h, if_neg (by rw [List.length_cons]; omega), behind_two]
      rfl
/-- A home's numbers. -/
def homeNs (h : Hom) : List Int := h.ps ++ [h.nx, h.rt]
theorem unrow_home (D : Nat) (b : List UInt8) : unrow (List.replicate (D + 2) 1 ++ [4]) b = if b.length < D + 6 then .error 4 else .ok (homeNs (homeN D b), b.drop (D + 6)) := by
  rw [unrow_ones]
  by_cases h : b.length < D + 2
  · rw [if_pos h, if_pos (by omega)]
  · rw [if_neg h, unrow_step 4 4 [] _ (.inr (.inr rfl)) rfl]
    by_cases h2 : b.length < D + 6
    · rw [if_pos (by rw [List.length_drop]; omega), if_pos h2]
      rfl
    · rw [if_neg (by rw [List.length_drop]; omega), if_neg h2]
      rw [show unrow [] ((b.drop (D + 2)).drop 4) = .ok ([], (b.drop (D + 2)).drop 4) from rfl, behind_ok, behind_ok, List.drop_drop]
      have e : (b.take (D + 2)).map (fun x => (x.toNat : Int)) = (b.take (D + 1)).map (fun x => (x.toNat : Int)) ++ [(num ((b.drop (D + 1)).take 1) : Int)] := by
        have hk : D + 1 < b.length := by omega
        rw [show D + 2 = D + 1 + 1 from rfl, List.take_succ_eq_append_getElem hk, List.map_append, List.drop_eq_getElem_cons hk, num_one_byte]
        rfl
      rw [e, List.append_assoc]
      rfl
theorem unrow_head (b : List UInt8) : unrow [4, 4, 4, 4, 1] b = if b.length < 17 then .error 4 else .ok ([(num (b.take 4) : Int), (num ((b.drop 4).take 4) : Int), (num ((b.drop 8).take 4) : Int), (num ((b.drop 12).take 4) : Int), (num ((b.drop 16).take 1) : Int)], b.drop 17) := by
  have h4 : (4 : Int) = 1 ∨ (4 : Int) = 2 ∨ (4 : Int) = 4 := .inr (.inr rfl)
  rw [unrow_step 4 4 _ _ h4 rfl, unrow_step 4 4 _ _ h4 rfl, unrow_step 4 4 _ _ h4 rfl, unrow_step 4 4 _ _ h4 rfl, unrow_step 1 1 _ _ (.inl rfl) rfl]
  simp only [List.drop_drop, List.length_drop, Nat.reduceAdd]
  by_cases h : b.length < 17
  · rw [if_pos h]
    by_cases g1 : b.length < 4
    · rw [if_pos g1]
    · rw [if_neg g1]
      by_cases g2 : b.length - 4 < 4
      · rw [if_pos g2]; rfl
      · rw [if_neg g2]
        by_cases g3 : b.length - 8 < 4
        · rw [if_pos g3]; rfl
        · rw [if_neg g3]
          by_cases g4 : b.length - 12 < 4
          · rw [if_pos g4]; rfl
          · rw [if_neg g4, if_pos (by omega)]; rfl
  · rw [if_neg h, if_neg (by omega), if_neg (by omega), if_neg (by omega), if_neg (by omega), if_neg (by omega)]
    rfl

/-- What label.Read answers of any bytes. -/
def LabR (l : List UInt8) (w : World) (e : Ending) (w' : World) : Prop :=
  (e = .returned (match readL l with | none => .tuple #[.string ⟨#[]⟩, .int .i64 0, .int .i64 4] | some t => .tuple #[.string ⟨t.toArray⟩, .int .i64 (1 + (t.length : Int)), .int .i64 0])) ∧ Below w.heap.size w w'
/-- As Sl, and behind block lo. -/
def SlH (w : World) (lo : Nat) (A : Option Addr) (l : List UInt8) : Prop :=
  0 < l.length → ∃ b off, A = some ⟨b, off, none⟩ ∧ lo ≤ b ∧ b < w.heap.size ∧ ∀ j (h : j < l.length), w.cell? ⟨b, off + j, none⟩ = some (by8 l[j])
section
variable {w w' : World} {lo : Nat} {A : Option Addr} {l : List UInt8}
theorem SlH.sl (h : SlH w lo A l) : Sl w w.heap.size A l := fun hl => by
  obtain ⟨b, off, ha, -, hb, hc⟩ := h hl
  exact ⟨b, off, ha, hb, hc⟩
theorem SlH.below (h : SlH w lo A l) (hb : Below w.heap.size w w') : SlH w' lo A l := fun hl => by
  obtain ⟨b, off, ha, h1, h2, hc⟩ := h hl
  exact ⟨b, off, ha, h1, Nat.lt_of_lt_of_le h2 hb.size, fun j hj => (hb.cell (p := ⟨b, off + j, none⟩) h2).trans (hc j hj)⟩
theorem SlH.set (h : SlH w lo A l) {g o : Nat} (hg : g < lo) (v : Value) : SlH (w.setCell ⟨g, o, none⟩ v) lo A l := fun hl => by
  obtain ⟨b, off, ha, h1, h2, hc⟩ := h hl
  refine ⟨b, off, ha, h1, by simpa using h2, fun j hj => ?_⟩
  rw [World.cell?_setCell_other _ _ _ _ (fun e => by have := congrArg Addr.block e; simp at this; omega)]
  exact hc j hj
theorem SlH.drop {b off : Nat} (h : SlH w lo (some ⟨b, off, none⟩) l) (k : Nat) : SlH w lo (some ⟨b, off + k, none⟩) (l.drop k) := fun hl => by
  rw [List.length_drop] at hl
  obtain ⟨b', off', ha, h1, h2, hc⟩ := h (by omega)
  simp only [Option.some.injEq, Addr.mk.injEq, and_true] at ha
  obtain ⟨rfl, rfl⟩ := ha
  refine ⟨b, off + k, rfl, h1, h2, fun j hj => ?_⟩
  rw [List.length_drop] at hj
  rw [Nat.add_assoc, hc (k + j) (by omega), List.getElem_drop]
theorem SlH.nil (w : World) (lo : Nat) (A : Option Addr) : SlH w lo A [] := fun h => absurd h (by simp)
theorem own_slh {base q c : Nat} {e : TypeId} (h : Own w base e (.slice A q c) l) : SlH w base A l := by
  obtain ⟨A', c', hv, -, -, hs, ha⟩ := h.form
  simp only [Value.slice.injEq] at hv
  obtain ⟨rfl, -, -⟩ := hv
  exact fun hl => by
    obtain ⟨b, off, hb, h1, h2⟩ := hs hl
    exact ⟨b, off, hb, ha _ hb, h1, h2⟩
end
end Go.Proofs.YtpcadoekhoediaaGreatDoor.anc
