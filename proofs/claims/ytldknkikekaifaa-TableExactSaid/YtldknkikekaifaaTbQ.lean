/-
  What the laws of package table ask of its functions holds of the developers' code, in every world. No condition.
-/
import Derived.Test.YtldknkikekaifaaTbG
import Derived.Test.YtldknkikekaifaaTbW
namespace Go.Proofs.Ytldknkikekaifaa.tbl
open Go.RowKit Go.Lib
open Go.Proofs.Ytldknkikekaifaa.gmt (Ok)

theorem nat_of {z d s l a : Int} (ho : Ok z d s l a) : ∃ D : Nat, d = D := ⟨d.toNat, by have := ho.2.1; omega⟩
theorem ctt_any (w : World) : Ctt w where
  check := fun c z d s l a x W _ ho hx hn hc => by
    obtain ⟨D, rfl⟩ := nat_of ho
    exact tcheck_any c z s l a D x W ho hx hn hc
  check_geo := fun z d s l a x W _ ho _ => tcheck_no z d s l a x W ho
  first := fun z d s l a W _ ho => by
    obtain ⟨D, rfl⟩ := nat_of ho
    rw [Int.toNat_natCast]
    exact tfirst_ok z s l a D W ho
  first_geo := fun z d s l a W _ ho => tfirst_no z d s l a W ho
  bytes := fun z d s l a x W _ ho hx hg => by
    obtain ⟨D, rfl⟩ := nat_of ho
    exact tbytes_ok z s l a D x W ho hx hg
  bytes_no := fun z d s l a x W _ hno hx hn => tbytes_no z d s l a x W hno hx hn
  read := fun z d s l a A n c b W _ ho hn hc hm hl hA ht => by
    obtain ⟨D, rfl⟩ := nat_of ho
    rw [Int.toNat_natCast]
    have h := tread_any true z s l a D A n c b W ho hn hc hm hl hA (iff_of_true rfl ht)
    unfold RdR at h
    exact h
  read_no := fun z d s l a A n c b W _ ho hn hc hm hl hA ht => by
    obtain ⟨D, rfl⟩ := nat_of ho
    have h := tread_any false z s l a D A n c b W ho hn hc hm hl hA (iff_of_false Bool.false_ne_true ht)
    unfold RdR at h
    exact h
  read_geo := fun z d s l a A n c b W _ ho _ _ _ _ _ => tread_geo z d s l a _ W ⟨A, n, c, rfl⟩ ho
  lost := fun z d s l a x W _ ho hx hg => by
    obtain ⟨D, rfl⟩ := nat_of ho
    rw [Int.toNat_natCast]
    exact tlost_ok z s l a D x W ho hx hg
  lost_no := fun z d s l a x W _ hno hx hn => tlost_no z d s l a x W hno hx hn
end Go.Proofs.Ytldknkikekaifaa.tbl
