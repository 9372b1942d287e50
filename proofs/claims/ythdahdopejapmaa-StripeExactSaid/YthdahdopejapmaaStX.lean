/-
  What the laws of package stripe ask of its functions holds of the developers' code, in every world. No condition.
-/
import Derived.Test.YthdahdopejapmaaStYD
import Derived.Test.YthdahdopejapmaaStYE
import Derived.Test.YthdahdopejapmaaStYF
import Derived.Test.YthdahdopejapmaaStYG
namespace Go.Proofs.Ythdahdopejapmaa.stp
open Go.RowKit Go.Lib
open Go.Proofs.Ythdahdopejapmaa.gmt (Ok)
open Go.Proofs.Ythdahdopejapmaa.zon

theorem nat_d {z d s l a : Int} (ho : Ok z d s l a) : ∃ D : Nat, d = D := ⟨d.toNat, by have := ho.2.1; omega⟩
theorem bool_of (P : Prop) : ∃ b : Bool, b = true ↔ P := by
  by_cases h : P
  · exact ⟨true, iff_of_true rfl h⟩
  · exact ⟨false, iff_of_false Bool.false_ne_true h⟩
theorem cst_any (w : World) : Cst w where
  write := fun z s l a st D x N h n i m b W _ ho hx hN hg hh hn hd hi hm hm1 hat hst hb hbl hb8 => write_ok z s l a st D x N h.A h.c h.rs n i.A i.c i.l m b.A b.c b.rs W ho hst hN hx hg hn hh hd hm hi.h hm1 hat hbl hb hb8
  write_no := fun v z d s l a st x N h n i m b k W _ hw hx hN hN1 hh hn hn1 hi hm hm1 hb hk hk1 => by
    rcases hw with ⟨hno, rfl⟩ | ⟨⟨ho, hg⟩, hd, rfl⟩ | ⟨⟨ho, hg⟩, hd, ha, rfl⟩ | ⟨⟨ho, hg⟩, hd, ⟨hat, hst⟩, hbk, rfl⟩
    · exact write_zone 1 z d s l a st x N h.A n h.c i.A m i.c b.A k b.c W (by decide) fun W2 hW => all_no 1 z d s l a x N h.A n h.c W2 (by decide) fun W3 hW3 => check_no z d s l a x N h.A n h.c W3 hno hN hN1 (hx.next (bt hW hW3))
    · obtain ⟨D, rfl⟩ := nat_d ho
      rw [Int.toNat_natCast] at hd
      exact write_zone 2 z D s l a st x N h.A n h.c i.A m i.c b.A k b.c W (by decide) fun W2 hW => all_no 2 z D s l a x N h.A n h.c W2 (by decide) fun W3 hW3 => check_c 2 z s l a D x N h.A n h.c h.rs W3 ho hN (hx.next (bt hW hW3)) hg hn (hh.next (bt hW hW3)).h (hh.next (bt hW hW3)).r ⟨fun k => absurd k hd, fun _ => rfl⟩
    · obtain ⟨D, rfl⟩ := nat_d ho
      rw [Int.toNat_natCast] at hd
      obtain ⟨c, hc⟩ := bool_of (AtsOk D i.l)
      have hD := ho.2.1
      exact write_arg c z s l a st D _ _ x N h.A n h.c i.A m i.c b.A k b.c W (fun ⟨h1, h2⟩ => ha ⟨hc.1 h1, h2⟩) (fun W2 hW => wr_all z s l a D x N h n W2 ho (hx.next hW) hN hg (hh.next hW) hn hd) (fun W2 hW => ix_c c z s l a D i.A m i.c i.l W2 hm hm1 (hi.next hW).h (by omega) hc)
    · obtain ⟨D, rfl⟩ := nat_d ho
      rw [Int.toNat_natCast] at hd
      have hD := ho.2.1
      exact write_len z s l a st D _ _ x N h.A n h.c i.A m i.c b.A k b.c W hst (fun W2 hW => wr_all z s l a D x N h n W2 ho (hx.next hW) hN hg (hh.next hW) hn hd) (fun W2 hW => ix_c true z s l a D i.A m i.c i.l W2 hm hm1 (hi.next hW).h (by omega) (iff_of_true rfl hat)) (fun W2 hW => bk_c false b.A k b.c m b.rs W2 hk hk1 hm1 (hb.next hW).h (hb.next hW).r (iff_of_false Bool.false_ne_true (by rw [hm] at hbk; exact hbk)))
  images := fun z s l a zn D x N P pc p i m b W _ ho hx hN hg hz hp _ hp8 hi hm hm1 hat hb hbl hb8 => images_ok z s l a zn D x N P pc p i.A i.c i.l m b.A b.c b.rs W ho hx hN hg hz hp hp8 hm hi.h hm1 hat hbl hb hb8
  images_no := fun v z d s l a zn x N P pn pc p i m b k W _ hw hx hN hN1 hp hpn _ hi hm hm1 hb hk hk1 => by
    have hbytes : ∀ (D : Nat), Ok z D s l a → tbl.Good (D : Int) x.es → ∀ W2, Below W.heap.size W W2 → Calls Try.prog 36 #[.agg #[.int .i64 z, .int .i64 D, .int .i64 s, .int .i64 l, .int .i64 a], .agg #[.slice x.A N x.c]] W2 fun e w' => (∃ (X : Option Addr) (q c : Nat), e = .returned (.tuple #[.slice X q c, .int .i64 0])) ∧ Below W2.heap.size W2 w' := fun D ho hg W2 hW => by
      have h9 := tbl.tbytes_ok z s l a D x W2 ho (hx.next hW) hg
      rw [tbl.TV.v, hN] at h9
      refine h9.mono ?_
      rintro e w' ⟨⟨X, c, rfl, -, -⟩, hb⟩
      exact ⟨⟨X, _, c, rfl⟩, hb⟩
    rcases hw with ⟨hno, rfl⟩ | ⟨⟨ho, hg⟩, ha, rfl⟩ | ⟨⟨ho, hg⟩, ⟨hz, hat⟩, hbk, rfl⟩
    · exact images_tab 1 z d s l a zn x N P pn pc i.A m i.c b.A k b.c W (by decide) fun W2 hW => by
        have h9 := tbl.tbytes_no z d s l a x W2 hno (hx.next hW) (by omega)
        rw [tbl.TV.v, hN] at h9
        exact h9
    · obtain ⟨D, rfl⟩ := nat_d ho
      obtain ⟨c, hc⟩ := bool_of (AtsOk D i.l)
      have hD := ho.2.1
      exact images_arg c z s l a zn D x N P pn pc i.A m i.c b.A k b.c W (fun ⟨h1, h2⟩ => ha ⟨h1, hc.1 h2⟩) (hbytes D ho hg) (fun W2 hW => ix_c c z s l a D i.A m i.c i.l W2 hm hm1 (hi.next hW).h (by omega) hc)
    · obtain ⟨D, rfl⟩ := nat_d ho
      obtain ⟨c, hc⟩ := bool_of (BlkOk m (lists b.rs))
      have hD := ho.2.1
      exact images_len c z s l a zn D x N P pn pc i.A m i.c b.A k b.c W hz (fun ⟨h1, h2⟩ => hbk ⟨by rw [hm]; exact hc.1 h1, by rw [hpn]; exact h2⟩) (hbytes D ho hg) (fun W2 hW => ix_c true z s l a D i.A m i.c i.l W2 hm hm1 (hi.next hW).h (by omega) (iff_of_true rfl hat)) (fun W2 hW => bk_c c b.A k b.c m b.rs W2 hk hk1 hm1 (hb.next hW).h (hb.next hW).r hc)
end Go.Proofs.Ythdahdopejapmaa.stp
