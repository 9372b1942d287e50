/-
  What Write and Images answer, right or wrong, in one way each (for StripeExact). Conditions: 'Cst'.
-/
import Derived.Test.YthdahdopejapmaaStQ
namespace Go.Proofs.Ythdahdopejapmaa.stp
open Go.RowKit Go.Lib
open Go.Proofs.Ythdahdopejapmaa.gmt (Ok)
open Go.Proofs.Ythdahdopejapmaa.tbl (Ent EntOk OwnE)
open Go.Proofs.Ythdahdopejapmaa.zon
open Go.Proofs.Ythdahdopejapmaa.img

/-- What Write answers: an error's number, a table, a parity. -/
def WrE (E : Int) (es : List Ent) (p : List UInt8) (e : Ending) (w' : World) : Prop := ∃ (t : tbl.TV) (X : Option Addr) (c : Nat), e = .returned (.tuple #[.agg #[.slice t.A es.length t.c], .slice X p.length c, .int .i64 E]) ∧ t.es = es ∧ t.In w' w'.heap.size ∧ Sl w' w'.heap.size X p ∧ p.length ≤ c ∧ c ≤ maxLen
/-- What Images answers: an error's number, images. -/
def ImE (E : Int) (ds : List (Int × Int × List UInt8)) (e : Ending) (w' : World) : Prop := ∃ (A : Option Addr) (c : Nat) (rs : List ImR), e = .returned (.tuple #[.slice A ds.length c, .int .i64 E]) ∧ ids rs = ds ∧ (E = 0 → IV.In w' w'.heap.size ⟨A, c, rs⟩)
/-- All is right for Write. -/
def WrOk (z d s l a : Int) (es : List Ent) (hs : List (List UInt8)) (ats : List Int) (bs : List (List UInt8)) (st : Int) : Prop := (Ok z d s l a ∧ tbl.Good d es) ∧ HadOk (d.toNat + 1) hs ∧ (AtsOk d ats ∧ StOk st) ∧ BlkOk ats.length bs
def ImOk (z d s l a : Int) (es : List Ent) (ats : List Int) (bs : List (List UInt8)) (p : List UInt8) (zn : Int) : Prop := (Ok z d s l a ∧ tbl.Good d es) ∧ ((0 ≤ zn ∧ zn ≤ z - 1) ∧ AtsOk d ats) ∧ BlkOk ats.length bs ∧ p.length = 8
theorem wr_one (z d s l a : Int) (es : List Ent) (hs : List (List UInt8)) (ats : List Int) (bs : List (List UInt8)) (st : Int) : WrOk z d s l a es hs ats bs st ∨ ∃ v, v ≠ 0 ∧ WrWhy z d s l a es hs ats bs st v := by
  by_cases h1 : Ok z d s l a ∧ tbl.Good d es
  case neg => exact .inr ⟨1, by decide, .inl ⟨h1, rfl⟩⟩
  by_cases h2 : HadOk (d.toNat + 1) hs
  case neg => exact .inr ⟨2, by decide, .inr (.inl ⟨h1, h2, rfl⟩)⟩
  by_cases h3 : AtsOk d ats ∧ StOk st
  case neg => exact .inr ⟨1, by decide, .inr (.inr (.inl ⟨h1, h2, h3, rfl⟩))⟩
  by_cases h4 : BlkOk ats.length bs
  case neg => exact .inr ⟨2, by decide, .inr (.inr (.inr ⟨h1, h2, h3, h4, rfl⟩))⟩
  exact .inl ⟨h1, h2, h3, h4⟩
theorem im_one (z d s l a : Int) (es : List Ent) (ats : List Int) (bs : List (List UInt8)) (p : List UInt8) (zn : Int) : ImOk z d s l a es ats bs p zn ∨ ∃ v, v ≠ 0 ∧ ImWhy z d s l a es ats bs p zn v := by
  by_cases h1 : Ok z d s l a ∧ tbl.Good d es
  case neg => exact .inr ⟨1, by decide, .inl ⟨h1, rfl⟩⟩
  by_cases h2 : (0 ≤ zn ∧ zn ≤ z - 1) ∧ AtsOk d ats
  case neg => exact .inr ⟨1, by decide, .inr (.inl ⟨h1, h2, rfl⟩)⟩
  by_cases h3 : BlkOk ats.length bs ∧ p.length = 8
  case neg => exact .inr ⟨2, by decide, .inr (.inr ⟨h1, h2, h3, rfl⟩)⟩
  exact .inl ⟨h1, h2, h3⟩
/-- Write, in one way. -/
theorem write_ex (z d s l a st : Int) (x : tbl.TV) (N : Nat) (h : LV) (n : Nat) (i : NV) (m : Nat) (b : LV) (k : Nat) (w : World) (hc : Cst w) (hx : x.In w w.heap.size) (hN : x.es.length = N) (hN1 : N ≤ 1048576) (hh : h.In w w.heap.size) (hn : h.rs.length = n) (hn1 : n ≤ 1048576) (hi : i.In w w.heap.size) (hm : i.l.length = m) (hm1 : m ≤ 1048576) (hb : b.In w w.heap.size) (hk : b.rs.length = k) (hk1 : k ≤ 1048576) :
    ∃ (E : Int) (es : List Ent) (p : List UInt8), (∀ W, Below w.heap.size w W → Calls Try.prog 11 #[.agg #[.int .i64 z, .int .i64 d, .int .i64 s, .int .i64 l, .int .i64 a], .agg #[.slice x.A N x.c], .slice h.A n h.c, .slice i.A m i.c, .slice b.A k b.c, .int .i64 st] W fun e w' => WrE E es p e w' ∧ Below W.heap.size W w') ∧
      ((E = 0 ∧ WrOk z d s l a x.es (lists h.rs) i.l (lists b.rs) st ∧ es = newT d.toNat x.es (lists h.rs) i.l (lists b.rs) st ∧ p = newP d.toNat x.es (lists h.rs) i.l (lists b.rs) st d.toNat) ∨ (E ≠ 0 ∧ WrWhy z d s l a x.es (lists h.rs) i.l (lists b.rs) st E ∧ es = [] ∧ p = [])) := by
  rcases wr_one z d s l a x.es (lists h.rs) i.l (lists b.rs) st with hok | ⟨v, hv, hwhy⟩
  · obtain ⟨⟨ho, hg⟩, hd, ⟨hat, hst⟩, hbo⟩ := id hok
    obtain ⟨D, rfl⟩ : ∃ D : Nat, d = D := ⟨d.toNat, by have := ho.2.1; omega⟩
    obtain rfl : k = m := by have := hbo.1; rw [lists_length, hk, hm] at this; exact this
    rw [Int.toNat_natCast] at hd ⊢
    refine ⟨0, _, _, fun W hW => ?_, .inl ⟨rfl, hok, rfl, rfl⟩⟩
    refine (hc.write z s l a st D x N h n i k b W hW ho (hx.next hW) hN hg (hh.next hW) hn hd (hi.next hW) hm hm1 hat hst (hb.next hW) hk hbo.2).mono ?_
    rintro e w' ⟨⟨t, X, c, rfl, hte, hto, hpo⟩, hb9⟩
    have h8 := newP_length (D := D) (es := x.es) (st := st) hat.2.2 hd (show (lists b.rs).length = i.l.length by rw [lists_length, hk, hm]) hbo.2 D
    obtain ⟨-, h1, h2, h3⟩ := own_at hpo
    exact ⟨⟨t, X, c, by rw [newT_length, h8], hte, tbl.TV.Own.inn hto, h3, by rw [h8]; exact h1, h2⟩, hb9⟩
  · refine ⟨v, [], [], fun W hW => ?_, .inr ⟨hv, hwhy, rfl, rfl⟩⟩
    refine (hc.write_no v z d s l a st x N h n i m b k W hW hwhy (hx.next hW) hN hN1 (hh.next hW) hn hn1 (hi.next hW) hm hm1 (hb.next hW) hk hk1).mono ?_
    rintro e w' ⟨⟨A, c, X, y, hc1, hc2, rfl⟩, hb9⟩
    exact ⟨⟨⟨A, c, []⟩, X, y, rfl, rfl, ⟨SlV.nil _ _ _, Nat.zero_le _, hc1⟩, Sl.nil _ _ _, Nat.zero_le _, hc2⟩, hb9⟩
/-- Images, in one way. -/
theorem images_ex (z d s l a zn : Int) (x : tbl.TV) (N : Nat) (P : Option Addr) (pn pc : Nat) (p : List UInt8) (i : NV) (m : Nat) (b : LV) (k : Nat) (w : World) (hc : Cst w) (hx : x.In w w.heap.size) (hN : x.es.length = N) (hN1 : N ≤ 1048576) (hp : Sl w w.heap.size P p) (hpn : p.length = pn) (hpc : pn ≤ pc ∧ pc ≤ maxLen) (hi : i.In w w.heap.size) (hm : i.l.length = m) (hm1 : m ≤ 1048576) (hb : b.In w w.heap.size) (hk : b.rs.length = k) (hk1 : k ≤ 1048576) :
    ∃ (E : Int) (ds : List (Int × Int × List UInt8)), (∀ W, Below w.heap.size w W → Calls Try.prog 12 #[.agg #[.int .i64 z, .int .i64 d, .int .i64 s, .int .i64 l, .int .i64 a], .int .i64 zn, .agg #[.slice x.A N x.c], .slice P pn pc, .slice i.A m i.c, .slice b.A k b.c] W fun e w' => ImE E ds e w' ∧ Below W.heap.size W w') ∧
      ((E = 0 ∧ ImOk z d s l a x.es i.l (lists b.rs) p zn ∧ ds = imgL zn x.es p i.l (lists b.rs)) ∨ (E ≠ 0 ∧ ImWhy z d s l a x.es i.l (lists b.rs) p zn E ∧ ds = [])) := by
  rcases im_one z d s l a x.es i.l (lists b.rs) p zn with hok | ⟨v, hv, hwhy⟩
  · obtain ⟨⟨ho, hg⟩, ⟨hz, hat⟩, hbo, hp8⟩ := id hok
    obtain ⟨D, rfl⟩ : ∃ D : Nat, d = D := ⟨d.toNat, by have := ho.2.1; omega⟩
    obtain rfl : k = m := by have := hbo.1; rw [lists_length, hk, hm] at this; exact this
    obtain rfl : pn = 8 := by omega
    refine ⟨0, _, fun W hW => ?_, .inl ⟨rfl, hok, rfl⟩⟩
    refine (hc.images z s l a zn D x N P pc p i k b W hW ho (hx.next hW) hN hg hz (hp.next hW) hpc hp8 (hi.next hW) hm hm1 hat (hb.next hW) hk hbo.2).mono ?_
    rintro e w' ⟨⟨A, c, rs, rfl, hid, hin⟩, hb9⟩
    exact ⟨⟨A, c, rs, rfl, hid, fun _ => hin⟩, hb9⟩
  · refine ⟨v, [], fun W hW => ?_, .inr ⟨hv, hwhy, rfl⟩⟩
    refine (hc.images_no v z d s l a zn x N P pn pc p i m b k W hW hwhy (hx.next hW) hN hN1 (hp.next hW) hpn hpc (hi.next hW) hm hm1 (hb.next hW) hk hk1).mono ?_
    rintro e w' ⟨⟨A, c, rfl⟩, hb9⟩
    exact ⟨⟨A, c, [], rfl, rfl, fun h => absurd h hv⟩, hb9⟩
end Go.Proofs.Ythdahdopejapmaa.stp
