/-
  The law TableBack, whatever its arguments. Conditions: 'Ctt'.
-/
import Derived.Test.YtldknkikekaifaaTbLC
namespace Go.Proofs.Ytldknkikekaifaa.tbl
open Go.RowKit Go.Lib
open Go.Proofs.Ytldknkikekaifaa.gmt (Ok)
theorem tableBack_law (z d s l a : Int) (x y : TV) (cut : Int) (w : World) (hc : Ctt w) (hx : x.In w w.heap.size) (hy : y.In w w.heap.size) :
    Calls Try.prog 4 #[.agg #[.int .i64 z, .int .i64 d, .int .i64 s, .int .i64 l, .int .i64 a], x.v, y.v, .int .i64 cut] w fun e w' => e = .returned (.bool true) ∧ Below w.heap.size w w' := by
  by_cases h1 : 20 < x.es.length
  · exact tk_long z d s l a x y _ _ cut w rfl rfl h1
  by_cases h2 : 20 < y.es.length
  · exact tk_long2 z d s l a x y _ _ cut w rfl rfl (by omega) h2
  by_cases h3 : Ok z d s l a ∧ Good d x.es
  case neg =>
    by_cases h4 : Ok z d s l a ∧ Good d y.es
    · exact tk_ny z d s l a x y _ _ cut w rfl rfl hc hx hy (by omega) (by omega) h3 h4
    · exact tk_nn z d s l a x y _ _ cut w rfl rfl hc hx hy (by omega) (by omega) h3 h4
  by_cases h4 : Ok z d s l a ∧ Good d y.es
  case neg => exact tk_yn z d s l a x y _ _ cut w rfl rfl hc hx hy (by omega) (by omega) h3 h4
  have o2 := h3.1.2.1
  have hl := h3.2.1
  obtain ⟨q, hq⟩ : ∃ q, q = x.es.length * 9 := ⟨_, rfl⟩
  have hk := Go.Proofs.Ytldknkikekaifaa.gmt.wrap_mod cut (q : Int) (by omega)
  exact tk_both (decide (x.es = y.es)) q (y.es.length * 9) ((IntKind.u64.wrap cut).tmod (q : Int)).toNat z d s l a x y _ _ cut w rfl rfl hc hx hy (by omega) (by omega) h3.1 h3.2 h4.2 hq.symm rfl (by omega) (by omega) (by omega) (by omega) rfl
end Go.Proofs.Ytldknkikekaifaa.tbl
