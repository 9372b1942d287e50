/-
  'wakes': the two runes that each law looks at, too: it answers true. Conditions: 'Tabs', 'ValidOk', 'CloneOk' as before.
-/
import Derived.Test.YtmdimngihpbcnaaDoorLblD
namespace Go.Proofs.YtmdimngihpbcnaaDoor.lbl
open Go.RowKit Go.Lib

theorem read_ne (hV : ValidOk) (A : Option Addr) (c B : Nat) (W : World) (hT : Tabs W) (hA : Sl W B A [3, 110, 195, 169, 7]) (hc : 5 ≤ c) (hm : c ≤ maxLen) :
    Calls Tryd.prog 11 #[.slice A 5 c] W fun e w' => e = .returned (.tuple #[.string ⟨#[110, 195, 169]⟩, .int .i64 4, .int .i64 0]) ∧ Below W.heap.size W w' := by
  refine (read_any hV A c B 3 [110, 195, 169, 7] W hT hA hc hm (by decide)).mono ?_
  rintro e w' ⟨S, hS, he, hb⟩
  have hS' : S = ⟨#[110, 195, 169]⟩ := by
    apply ByteArray.ext
    apply Array.ext'
    rw [hS]
    decide
  rw [if_pos (by decide), hS'] at he
  exact ⟨he, hb⟩

set_option maxHeartbeats 2000000 in
set_option maxRecDepth 100000 in
theorem wakes_any (hV : ValidOk) (hC : CloneOk) (w : World) (hT : Tabs w) :
    Calls Tryd.prog 21 #[] w fun e w' => e = .returned (.bool true) ∧ Below w.heap.size w w' := by
  have cB : Calls Tryd.prog 10 #[.string ⟨#[110, 195, 169]⟩] w fun e w' => SliceAns w.heap.size [3, 110, 195, 169] e w' ∧ Below w.heap.size w w' :=
    bytes_ok hV ⟨#[110, 195, 169]⟩ w (by show 3 ≤ _; omega) hT (by decide)
  have cK : ∀ W, Tabs W → Calls Tryd.prog 14 #[.string ⟨#[97, 10]⟩] W fun e w' => e = .returned (.int .i64 3) ∧ Below W.heap.size W w' := fun W h => by
    have := check_any hV ⟨#[97, 10]⟩ W (by show 2 < _; omega) h
    rwa [show labE ((⟨#[97, 10]⟩ : ByteArray)).data.toList = 3 by decide] at this
  have cN : ∀ W, Calls Tryd.prog 17 #[.string ⟨#[110, 195, 169]⟩] W fun e w' => e = .returned (.int .i64 2) ∧ Below W.heap.size W w' := fun W => by
    have := runes_any ⟨#[110, 195, 169]⟩ W (by show 3 < _; omega)
    rwa [show (toks ((⟨#[110, 195, 169]⟩ : ByteArray)).data.toList).length = 2 by decide] at this
  have cT : ∀ W, Calls Tryd.prog 19 #[.string ⟨#[110, 195, 169]⟩, .int .i64 1] W fun e w' => e = .returned (.string ⟨#[110]⟩) ∧ Below W.heap.size W w' := fun W => by
    have := cut_any hC ⟨#[110, 195, 169]⟩ 1 W (by show 3 ≤ _; omega)
    rwa [show cutS (⟨#[110, 195, 169]⟩ : ByteArray) 1 = ⟨#[110]⟩ by apply ByteArray.ext; apply Array.ext'; rw [cutS_list]; decide] at this
  go_enter Tryd.func21, Tryd.ntmps21
  go_wp2_with (first
    | (go_at_call 10
       refine cB.mono ?_
       rintro e w1 ⟨⟨v, rfl, hown⟩, hb⟩
       obtain ⟨A, c, hv, -, -, -, -⟩ := hown.form
       obtain rfl : v = .slice A 4 c := hv)
    | (at_builtin
       refine wpList_app8 _ rfl (.tmp 11) (.tmp 12) _ _ rfl w.heap.size 5 t8 (.slice A 4 c) [3, 110, 195, 169] rfl (hown.alloc _) _ _ rfl (src_one _ Tryd.underlying22 7 7 rfl _ _ ?_) ?_ ?_ ?_
       · rfl
       · decide
       · have := hb.size
         simp
         omega
       intro v2 w2 hown2 hg2 hat2
       have hb2 : Below w.heap.size w w2 := (hb.alloc hb.size _).grown hg2 (by have := hb.size; simp; omega) (fun k hk => (World.ownsRow.lt hown k hk).1)
       obtain ⟨A2, c2, hv2, hc2, hm2, hs2, -⟩ := hown2.form
       obtain rfl : v2 = .slice A2 5 c2 := hv2)
    | (go_at_call 11
       refine (read_ne hV A2 c2 _ w2 (hT.next hb2) hs2 hc2 hm2).mono ?_
       rintro e w3 ⟨rfl, hb3⟩
       have hb4 := bt hb2 hb3)
    | (go_at_call 17; refine (cN _).mono ?_; rintro e w5 ⟨rfl, hb5⟩; have hb6 := bt hb4 hb5)
    | (go_at_call 14; refine (cK _ (hT.next hb6)).mono ?_; rintro e w7 ⟨rfl, hb7⟩; have hb8 := bt hb6 hb7)
    | (go_at_call 19; refine (cT _).mono ?_; rintro e w9 ⟨rfl, hb9⟩; have hb10 := bt hb8 hb9))
  go_ret
  exact ⟨rfl, hb10⟩
end Go.Proofs.YtmdimngihpbcnaaDoor.lbl
