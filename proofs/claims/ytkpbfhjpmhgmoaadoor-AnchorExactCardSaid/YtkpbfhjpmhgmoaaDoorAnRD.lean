/-
  The document's own reading of an anchor, as the law calls it: of bytes that are a right anchor's, and of any others. Conditions: a right geometry, at most 300 bytes.
-/
import Derived.Test.YtkpbfhjpmhgmoaaDoorAnRC
namespace Go.Proofs.YtkpbfhjpmhgmoaaDoor.anc
open Go.RowKit Go.Lib
open Go.Proofs.YtkpbfhjpmhgmoaaDoor.gmt (Ok five_new)
open Go.Proofs.YtkpbfhjpmhgmoaaDoor.lbl (encL readL labE lab_len)

theorem parsed_whole {Z D : Nat} {b : List UInt8} {x : Anc} (h : parsed Z D b = some (x, [])) : ∃ t, readL (b.drop 17) = some t ∧ (b.drop (18 + t.length)).length = Z * (D + 6) ∧ ancN b t (homesN D (b.drop (18 + t.length)) Z) = x := by
  unfold parsed at h
  split at h
  · cases h
  · split at h
    · cases h
    · rename_i t ht
      split at h
      · cases h
      · rename_i hr
        simp only [Option.some.injEq, Prod.mk.injEq] at h
        obtain ⟨h1, h2⟩ := h
        refine ⟨t, ht, ?_, h1⟩
        have h3 := congrArg List.length h2
        rw [List.length_drop] at h3
        simp only [List.length_nil] at h3
        omega
theorem whole_parsed {Z D : Nat} {b t : List UInt8} (h18 : 18 ≤ b.length) (ht : readL (b.drop 17) = some t) (hl : (b.drop (18 + t.length)).length = Z * (D + 6)) : parsed Z D b = some (ancN b t (homesN D (b.drop (18 + t.length)) Z), []) := by
  unfold parsed
  rw [if_neg (by omega), ht]
  simp only
  rw [if_neg (by omega), List.drop_eq_nil_of_le (Nat.le_of_eq hl)]
theorem rread_yes (z d s l a : Int) (A : Option Addr) (c n : Nat) (b : List UInt8) (x : Anc) (w : World) (ho : Ok z d s l a) (hn : b.length = n) (hA : Sl w w.heap.size A b) (hm : n ≤ c) (hmax : c ≤ maxLen) (hn3 : n ≤ 300) (hg : Good z d s l x) (hb : b = encA x) :
    Calls Tryd.prog 20 #[.agg #[.int .i64 z, .int .i64 d, .int .i64 s, .int .i64 l, .int .i64 a], .slice A n c] w fun e w' => RdQ w.heap.size x true e w' ∧ Below w.heap.size w w' := by
  obtain ⟨o1, o2, -⟩ := id ho
  have hab := good_b ho hg
  have hp := parsed_of hab []
  have hlen := encA_len hab
  obtain ⟨Z, rfl⟩ : ∃ Z : Nat, z = Z := ⟨z.toNat, by omega⟩
  obtain ⟨D, rfl⟩ : ∃ D : Nat, d = D := ⟨d.toNat, by omega⟩
  rw [List.append_nil, ← hb, Int.toNat_natCast, Int.toNat_natCast] at hp
  obtain ⟨t, h1, h2, h3⟩ := parsed_whole hp
  have h18 : 18 ≤ n := by rw [← hn, hb]; omega
  exact rread_go Z D s l a A c n b w hn h18 hA hm hmax t h1 ho h2 hn3 x h3 true (iff_of_true rfl hg)
theorem rread_not (z d s l a : Int) (A : Option Addr) (c n : Nat) (b : List UInt8) (w : World) (ho : Ok z d s l a) (hn : b.length = n) (hA : Sl w w.heap.size A b) (hm : n ≤ c) (hmax : c ≤ maxLen) (hn3 : n ≤ 300) (hg : ∀ x, Good z d s l x → b ≠ encA x) :
    Calls Tryd.prog 20 #[.agg #[.int .i64 z, .int .i64 d, .int .i64 s, .int .i64 l, .int .i64 a], .slice A n c] w fun e w' => RdQ w.heap.size noAnc false e w' ∧ Below w.heap.size w w' := by
  obtain ⟨o1, o2, -⟩ := id ho
  obtain ⟨Z, rfl⟩ : ∃ Z : Nat, z = Z := ⟨z.toNat, by omega⟩
  obtain ⟨D, rfl⟩ : ∃ D : Nat, d = D := ⟨d.toNat, by omega⟩
  by_cases h18 : n < 18
  · exact rread_short Z D s l a A c n w h18
  · cases h1 : readL (b.drop 17) with
    | none => exact rread_lab Z D s l a A c n b w hn (by omega) hA hm hmax h1
    | some t =>
      by_cases h2 : (b.drop (18 + t.length)).length = Z * (D + 6)
      · have hp := whole_parsed (Z := Z) (D := D) (by omega) h1 h2
        obtain ⟨k1, -, -, -⟩ := parsed_sound hp
        rw [List.append_nil] at k1
        exact rread_go Z D s l a A c n b w hn (by omega) hA hm hmax t h1 ho h2 hn3 _ rfl false (iff_of_false Bool.false_ne_true fun h => hg _ h k1)
      · exact rread_len Z D s l a A c n b w hn (by omega) hA hm hmax t h1 ho h2
end Go.Proofs.YtkpbfhjpmhgmoaaDoor.anc
