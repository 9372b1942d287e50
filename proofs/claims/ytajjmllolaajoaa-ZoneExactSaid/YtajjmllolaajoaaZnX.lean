/-
  What the laws of package zone ask of its functions holds of the developers' code, in every world. No condition.
-/
import Derived.Test.YtajjmllolaajoaaZnC
namespace Go.Proofs.Ytajjmllolaajoaa.zon
open Go.RowKit Go.Lib
open Go.Proofs.Ytajjmllolaajoaa.gmt (Ok)

theorem good_len {D : Nat} {es : List tbl.Ent} {N : Nat} (hg : tbl.Good (D : Int) es) (hN : es.length = N) : N = D + 1 := by
  have := hg.1
  rw [hN] at this
  omega
theorem had_len {D n : Nat} {rs : List Row} (hd : HadOk (D + 1) (lists rs)) (hn : rs.length = n) : n = D + 1 := by
  have := hd.1
  rw [lists_length, hn] at this
  exact this
theorem atN_int {D : Nat} {i : Int} (hi : -1 ≤ i ∧ i ≤ (D : Int) - 1) : (if i = -1 then (D : Int) else i) = (atN D i : Nat) := by
  unfold atN
  by_cases h : i = -1
  · rw [if_pos h, if_pos h]
  · rw [if_neg h, if_neg h]; omega
theorem atN_lt {D : Nat} {i : Int} (hi : -1 ≤ i ∧ i ≤ (D : Int) - 1) : atN D i < D + 1 := by
  unfold atN
  by_cases h : i = -1
  · rw [if_pos h]; omega
  · rw [if_neg h]; omega
theorem czn_any (w : World) : Czn w where
  all := fun z s l a D x N h n W _ ho hx hN hg hh hn hd => by
    have hN1 := good_len hg hN
    have hn1 := had_len hd hn
    have hD := ho.2.1
    refine (all_c z s l a D x N h.A n h.c W x.es (lists h.rs) hn1 (by omega) (fun W2 hW => check_c 0 z s l a D x N h.A n h.c h.rs W2 ho hN (hx.next hW) hg hn (hh.next hW).h (hh.next hW).r ⟨fun _ => rfl, fun k => absurd hd k⟩) (fun W2 hW k hk => find_c x N h.A h.c n h.rs k W2 hN (hx.next hW) (hh.next hW).h (hh.next hW).r hn (by omega) (by omega) (by rw [hn1]; exact hd) hk)).mono ?_
    rintro e w' ⟨k, hb⟩
    rw [hn1] at k
    exact ⟨k, hb⟩
  all_geo := fun z d s l a x N h n W _ hno hx hN hN1 hh hn hn1 => all_no 1 z d s l a x N h.A n h.c W (by decide) fun W2 hW => check_no z d s l a x N h.A n h.c W2 hno hN hN1 (hx.next hW)
  all_len := fun z s l a D x N h n W _ ho hx hN hg hh hn _ hd => all_no 2 z D s l a x N h.A n h.c W (by decide) fun W2 hW => check_c 2 z s l a D x N h.A n h.c h.rs W2 ho hN (hx.next hW) hg hn (hh.next hW).h (hh.next hW).r ⟨fun k => absurd k hd, fun _ => rfl⟩
  block := fun z s l a D x N h n W i _ ho hx hN hg hh hn hd hi => by
    have hN1 := good_len hg hN
    have hn1 := had_len hd hn
    have hD := ho.2.1
    have hk := atN_lt hi
    refine (block_c z s l a i D (atN D i) x N h.A n h.c W (known (D + 1) x.es (lists h.rs) (atN D i)) _ _ (by omega) (atN_int hi) (fun W2 hW => check_c 0 z s l a D x N h.A n h.c h.rs W2 ho hN (hx.next hW) hg hn (hh.next hW).h (hh.next hW).r ⟨fun _ => rfl, fun k => absurd hd k⟩) (fun W2 hW => by
      have h9 := find_c x N h.A h.c n h.rs (atN D i) W2 hN (hx.next hW) (hh.next hW).h (hh.next hW).r hn (by omega) (by omega) (by rw [hn1]; exact hd) (by omega)
      rw [hn1] at h9 ⊢
      exact h9)).mono ?_
    rintro e w' ⟨⟨X, y, rfl, ho⟩, hb⟩
    refine ⟨?_, hb⟩
    cases hk : known (D + 1) x.es (lists h.rs) (atN D i) with
    | nil =>
      rw [hk] at ho
      exact ⟨X, y, rfl, ho⟩
    | cons u us =>
      rw [hk] at ho
      exact ⟨X, y, rfl, ho⟩
  block_what := fun z s l a D x N h n W i _ ho hx hN hg hh hn hd hi => block_what z s l a i D x N h.A n h.c W hi fun W2 hW => check_c 0 z s l a D x N h.A n h.c h.rs W2 ho hN (hx.next hW) hg hn (hh.next hW).h (hh.next hW).r ⟨fun _ => rfl, fun k => absurd hd k⟩
  block_geo := fun z d s l a x N h n W i _ hno hx hN hN1 hh hn hn1 => block_no 1 z d s l a i x N h.A n h.c W (by decide) fun W2 hW => check_no z d s l a x N h.A n h.c W2 hno hN hN1 (hx.next hW)
  block_len := fun z s l a D x N h n W i _ ho hx hN hg hh hn _ hd => block_no 2 z D s l a i x N h.A n h.c W (by decide) fun W2 hW => check_c 2 z s l a D x N h.A n h.c h.rs W2 ho hN (hx.next hW) hg hn (hh.next hW).h (hh.next hW).r ⟨fun k => absurd k hd, fun _ => rfl⟩
end Go.Proofs.Ytajjmllolaajoaa.zon
