/-
  zone.All of the developers' code, alone, in plain data. Conditions: a right zone, what is had of it.
-/
import Derived.Test.YthdahdopejapmaaGZy
namespace Go.Proofs.Ythdahdopejapmaa.zon
open Go.RowKit Go.Lib
open Go.Proofs.Ythdahdopejapmaa.gmt (Ok)

theorem zn_all (z s l a : Int) (D : Nat) (x : tbl.TV) (N : Nat) (h : LV) (n : Nat) (W : World) (ho : Ok z D s l a) (hx : x.In W W.heap.size) (hN : x.es.length = N) (hg : tbl.Good (D : Int) x.es) (hh : h.In W W.heap.size) (hn : h.rs.length = n) (hd : HadOk (D + 1) (lists h.rs)) :
    Calls Try.prog 27 #[.agg #[.int .i64 z, .int .i64 D, .int .i64 s, .int .i64 l, .int .i64 a], .agg #[.slice x.A N x.c], .slice h.A n h.c] W fun e w' => AllZ (D + 1) (knowns (D + 1) x.es (lists h.rs)) e w' ∧ Below W.heap.size W w' := by
  have hN1 : N = D + 1 := by have := hg.1; rw [hN] at this; omega
  have hn1 : n = D + 1 := by have := hd.1; rw [lists_length, hn] at this; exact this
  have hD := ho.2.1
  refine (all_c z s l a D x N h.A n h.c W x.es (lists h.rs) hn1 (by omega) (fun W2 hW => check_c 0 z s l a D x N h.A n h.c h.rs W2 ho hN (hx.next hW) hg hn (hh.next hW).h (hh.next hW).r ⟨fun _ => rfl, fun k => absurd hd k⟩) (fun W2 hW k hk => find_c x N h.A h.c n h.rs k W2 hN (hx.next hW) (hh.next hW).h (hh.next hW).r hn (by omega) (by omega) (by rw [hn1]; exact hd) hk)).mono ?_
  rintro e w' ⟨k, hb⟩
  rw [hn1] at k
  exact ⟨k, hb⟩
end Go.Proofs.Ythdahdopejapmaa.zon
