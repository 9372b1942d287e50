/-
  The law AnchorBack, whole. Conditions: 'ValidOk', 'CloneOk', 'Tabs'.
-/
import Derived.Test.YtkpbfhjpmhgmoaaDoorAnLE
namespace Go.Proofs.YtkpbfhjpmhgmoaaDoor.anc
open Go.RowKit Go.Lib
open Go.Proofs.YtkpbfhjpmhgmoaaDoor.gmt (Ok five_new)
open Go.Proofs.YtkpbfhjpmhgmoaaDoor.lbl (encL readL labE lab_len ValidOk CloneOk Tabs)

theorem anchorBack_law (hV : ValidOk) (hC : CloneOk) (z d s l a : Int) (x y : AV) (cut : Int) (w : World) (hT : Tabs w) (hx : x.In w w.heap.size) (hy : y.In w w.heap.size) :
    Calls Tryd.prog 4 #[.agg #[.int .i64 z, .int .i64 d, .int .i64 s, .int .i64 l, .int .i64 a], x.v, y.v, .int .i64 cut] w fun e w' => e = .returned (.bool true) ∧ Below w.heap.size w w' := by
  by_cases hh : HeavyA x.d
  · exact ab_heavy z d s l a x y cut w hx hy hh
  by_cases hk : HeavyA y.d
  · exact ab_heavy2 z d s l a x y cut w hx hy hh hk
  obtain ⟨-, t2, -⟩ := light hh
  obtain ⟨-, u2, -⟩ := light hk
  by_cases ho : Ok z d s l a
  case neg => exact ab_none z d s l a x y cut w hx hy hV hC hT hh hk (fun W _ => bytes_geo z d s l a x W ho) (fun W _ => bytes_geo z d s l a y W ho)
  by_cases hg : Good z d s l x.d
  · by_cases hg2 : Good z d s l y.d
    · have hlen : 0 < (encA x.d).length ∧ (encA x.d).length ≤ 96 := by
        have h1 := encA_len (good_b ho hg)
        have h2 : x.lab.size ≤ 24 := by have := lab_len hg.2.2.2.2.2.2.1; rwa [size_list] at this
        have h3 := Nat.mul_le_mul (show z.toNat ≤ 4 by have := ho.1; omega) (show d.toNat + 6 ≤ 10 by have := ho.2.1; omega)
        have h4 : (encA x.d).length = 18 + x.lab.size + z.toNat * (d.toNat + 6) := h1
        omega
      have h0 := wrap_nonneg cut
      refine ab_both hV hC _ _ _ ((IntKind.u64.wrap cut).tmod ((encA x.d).length : Int)).toNat z d s l a x y cut w hT hx hy hh hk ho hg hg2 rfl rfl hlen.2 ?_ ?_ rfl
      · generalize (encA x.d).length = q at *
        generalize IntKind.u64.wrap cut = v at *
        rw [Int.tmod_eq_emod_of_nonneg h0]
        have h1 := Int.emod_nonneg v (show (q : Int) ≠ 0 by omega)
        have h2 := Int.emod_lt_of_pos v (show (0 : Int) < (q : Int) by omega)
        omega
      · generalize (encA x.d).length = q at *
        generalize IntKind.u64.wrap cut = v at *
        rw [Int.tmod_eq_emod_of_nonneg h0]
        have h1 := Int.emod_nonneg v (show (q : Int) ≠ 0 by omega)
        omega
    · exact ab_left z d s l a x y cut w hx hy hV hC hT hh hk (fun W hW => bytes_yes hV z d s l a x W (tn hT hW) ho (hx.next hW) hg) (fun W hW => bytes_not hV z d s l a y W (tn hT hW) ho (hy.next hW) (by omega) hg2)
  · by_cases hg2 : Good z d s l y.d
    · exact ab_right z d s l a x y cut w hx hy hV hC hT hh hk (fun W hW => bytes_not hV z d s l a x W (tn hT hW) ho (hx.next hW) (by omega) hg) (fun W hW => bytes_yes hV z d s l a y W (tn hT hW) ho (hy.next hW) hg2)
    · exact ab_none z d s l a x y cut w hx hy hV hC hT hh hk (fun W hW => bytes_not hV z d s l a x W (tn hT hW) ho (hx.next hW) (by omega) hg) (fun W hW => bytes_not hV z d s l a y W (tn hT hW) ho (hy.next hW) (by omega) hg2)
end Go.Proofs.YtkpbfhjpmhgmoaaDoor.anc
