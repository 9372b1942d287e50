/-
  The law AnchorExact, whole. Conditions: 'ValidOk', 'CloneOk', 'Tabs'.
-/
import Derived.Test.YtkpbfhjpmhgmoaaDoorAnLJ
namespace Go.Proofs.YtkpbfhjpmhgmoaaDoor.anc
open Go.RowKit Go.Lib
open Go.Proofs.YtkpbfhjpmhgmoaaDoor.gmt (Ok five_new)
open Go.Proofs.YtkpbfhjpmhgmoaaDoor.lbl (encL readL labE lab_len ValidOk CloneOk Tabs)

theorem bytQ_not {f : Int} {e : Ending} {w : World} (h : e = .returned (.tuple #[.slice none 0 0, .int .i64 f])) : BytQ f 0 [] e w := ⟨none, 0, h, Sl.nil _ _ _⟩
theorem bytQ_yes {base q : Nat} {l : List UInt8} {e : Ending} {w : World} (h : PutQ base q l e w) : BytQ 0 q l e w := by
  obtain ⟨X, c, he, hq, ho⟩ := h
  obtain ⟨A, k, hv, -, -, hs, -⟩ := ho.form
  simp only [Value.slice.injEq] at hv
  exact ⟨X, c, he, by rw [hv.1]; exact hs⟩
theorem anchorExact_law (hV : ValidOk) (hC : CloneOk) (z d s l a : Int) (x : AV) (lab : ByteArray) (A : Option Addr) (n c : Nat) (b : List UInt8) (w : World) (hT : Tabs w) (hx : x.In w w.heap.size) (hls : lab.size ≤ maxLen) (hn : b.length = n) (hA : Sl w w.heap.size A b) (hm : n ≤ c) (hmax : c ≤ maxLen) :
    Calls Tryd.prog 3 #[.agg #[.int .i64 z, .int .i64 d, .int .i64 s, .int .i64 l, .int .i64 a], x.v, .string lab, .slice A n c] w fun e w' => e = .returned (.bool true) ∧ Below w.heap.size w w' := by
  by_cases hh : HeavyA x.d
  · exact ae_heavy z d s l a x lab A n c w hx hh
  by_cases hl : 200 < lab.size
  · exact ae_lab z d s l a x lab A n c w hx hh hl hls
  by_cases hn3 : 300 < n
  · exact ae_long z d s l a x lab A n c w hx hh hl hn3
  by_cases ho : Ok z d s l a
  case neg =>
    exact ae_geo hV hC 1 1 1 0 [] noAnc noAnc z d s l a x lab A n c w hT hx hh hl hn3 (fun W _ => first_no z d s l a lab W ho)
      (fun W u _ _ _ => (bytes_geo z d s l a u W ho).mono fun e w' h => ⟨bytQ_not h.1, h.2⟩) (fun W _ => readA_no z d s l a _ W ⟨A, n, c, rfl⟩ ho) ho rfl rfl rfl rfl rfl rfl
  obtain ⟨-, t2, -⟩ := light hh
  have hlab : ∀ u : AV, u.d = x.d → u.lab.size ≤ 4294967296 := fun u hu => by
    have e : u.lab = x.lab := congrArg Anc.lab hu
    rw [e]
    omega
  -- a new one
  obtain ⟨E, X1, hE, hX1, fw1, cF⟩ : ∃ (E : Int) (X1 : Anc), labE lab.data.toList = E ∧ ((E = 0 ∧ X1 = firstA z d lab) ∨ (E ≠ 0 ∧ X1 = noAnc)) ∧ Few X1 ∧
      ∀ W, Below w.heap.size w W → Calls Tryd.prog 11 #[.agg #[.int .i64 z, .int .i64 d, .int .i64 s, .int .i64 l, .int .i64 a], .string lab] W fun e w' => AnsA W.heap.size X1 E e w' ∧ Below W.heap.size W w' := by
    by_cases h0 : labE lab.data.toList = 0
    · exact ⟨0, firstA z d lab, h0, .inl ⟨rfl, rfl⟩, few_good ho (first_good ho h0), fun W hW => first_yes hV z d s l a hC lab W (tn hT hW) ho (by omega) h0⟩
    · exact ⟨_, noAnc, rfl, .inr ⟨h0, rfl⟩, few_none, fun W hW => first_err hV z d s l a lab W (tn hT hW) ho (by omega) h0⟩
  -- what is read
  obtain ⟨ok, h, X2, hX2, fw2, cR, cA⟩ : ∃ (ok : Bool) (h : Int) (X2 : Anc), ((ok = true ∧ h = 0) ∨ (ok = false ∧ h = 4)) ∧ Few X2 ∧
      (∀ W, Below w.heap.size w W → Calls Tryd.prog 13 #[.agg #[.int .i64 z, .int .i64 d, .int .i64 s, .int .i64 l, .int .i64 a], .slice A n c] W fun e w' => AnsA W.heap.size X2 h e w' ∧ Below W.heap.size W w') ∧
      ∀ W, Below w.heap.size w W → Calls Tryd.prog 20 #[.agg #[.int .i64 z, .int .i64 d, .int .i64 s, .int .i64 l, .int .i64 a], .slice A n c] W fun e w' => RdQ W.heap.size X2 ok e w' ∧ Below W.heap.size W w' := by
    by_cases hr : ∃ X, Good z d s l X ∧ b = encA X
    · obtain ⟨X, hg, hb⟩ := hr
      exact ⟨true, 0, X, .inl ⟨rfl, rfl⟩, few_good ho hg, fun W hW => read_yes hV z d s l a A c n b X W (tn hT hW) ho hn (hA.next hW) hm hmax (by omega) hg hb,
        fun W hW => rread_yes z d s l a A c n b X W ho hn (hA.next hW) hm hmax (by omega) hg hb⟩
    · have hr' : ∀ X, Good z d s l X → b ≠ encA X := fun X hg hb => hr ⟨X, hg, hb⟩
      exact ⟨false, 4, noAnc, .inr ⟨rfl, rfl⟩, few_none, fun W hW => read_not hV z d s l a A c n b W (tn hT hW) ho hn (hA.next hW) hm hmax (by omega) hr',
        fun W hW => rread_not z d s l a A c n b W ho hn (hA.next hW) hm hmax (by omega) hr'⟩
  by_cases hg : Good z d s l x.d
  · exact ae_go hV hC E h 0 (encA x.d).length (encA x.d) X1 X2 z d s l a x lab A n c w hT hx hh hl hn3 cF
      (fun W u hW hu hud => by
        have h9 := bytes_yes hV z d s l a u W (tn hT hW) ho hu (by rw [hud]; exact hg)
        rw [hud] at h9
        exact h9.mono fun e w' k => ⟨bytQ_yes k.1, k.2⟩)
      cR true ok ho hE hX1 hX2 fw1 fw2 (iff_of_true rfl hg) cA (.inl ⟨rfl, rfl, rfl⟩) rfl
  · exact ae_go hV hC E h 1 0 [] X1 X2 z d s l a x lab A n c w hT hx hh hl hn3 cF
      (fun W u hW hu hud => (bytes_not hV z d s l a u W (tn hT hW) ho hu (hlab u hud) (by rw [hud]; exact hg)).mono fun e w' k => ⟨bytQ_not k.1, k.2⟩)
      cR false ok ho hE hX1 hX2 fw1 fw2 (iff_of_false Bool.false_ne_true hg) cA (.inr ⟨rfl, rfl, rfl⟩) rfl
end Go.Proofs.YtkpbfhjpmhgmoaaDoor.anc
