/-
  An anchor's cell, by the program. Conditions: 'ValidOk', 'CloneOk', 'Tabs' as package label's contracts ask (proved apart).
-/
import Derived.Test.YtdjleimndolonaaDoorNwA
import Derived.Test.YtdjleimndolonaaDoorNwB
import Derived.Test.YtdjleimndolonaaDoorNwP
namespace Go.Proofs.YtdjleimndolonaaDoor.nwt
open Go.RowKit Go.Lib
open Go.Proofs.YtdjleimndolonaaDoor.gmt (Ok anchor_at anchor_no Told)
open Go.Proofs.YtdjleimndolonaaDoor.lbl (ValidOk Tabs)
open Go.Proofs.YtdjleimndolonaaDoor.sel (Lies enc enc_length made make_any Made)
open Go.Proofs.YtdjleimndolonaaDoor.anc (bl kal kst ks bm ka Anc noAnc AV encA g5_new ac_new AC bytes_yes bytes_not bytes_geo PutQ)

set_option maxRecDepth 100000 in
set_option maxHeartbeats 8000000 in
theorem ncell_no1 (z d s l a i : Int) (x : AV) (w : World) (cB : ∀ W, Below w.heap.size w W → Calls Tryd.prog 32 #[.agg #[.int .i64 z, .int .i64 d, .int .i64 s, .int .i64 l, .int .i64 a], x.v] W fun e w' => e = .returned (.tuple #[.slice none 0 0, .int .i64 1]) ∧ Below W.heap.size W w') :
    Calls Tryd.prog 12 #[.agg #[.int .i64 z, .int .i64 d, .int .i64 s, .int .i64 l, .int .i64 a], x.v, .int .i64 i] w fun e' w' => CellNo e' ∧ Below w.heap.size w w' := by
  have HB := Lib.hid cB
  clear cB
  have s1 : (w.alloc (.cells #[.int .i64 z, .int .i64 d, .int .i64 s, .int .i64 l, .int .i64 a] 23)).heap.size = w.heap.size + 1 := by simp
  have GG := (g5_new w z d s l a).keep (bl (w.alloc (.cells #[.int .i64 z, .int .i64 d, .int .i64 s, .int .i64 l, .int .i64 a] 23)) (.cells #[.int .i64 x.gen, .int .i64 x.ep, .int .i64 x.pos, .int .i64 x.seq, .int .i64 x.last, .string x.lab, .slice x.HA x.hs.length x.hc] 31)) (by omega)
  have FX := ac_new (w.alloc (.cells #[.int .i64 z, .int .i64 d, .int .i64 s, .int .i64 l, .int .i64 a] 23)) x
  rw [s1] at FX
  have hb0 := kal (bl w (.cells #[.int .i64 z, .int .i64 d, .int .i64 s, .int .i64 l, .int .i64 a] 23)) (.cells #[.int .i64 x.gen, .int .i64 x.ep, .int .i64 x.pos, .int .i64 x.seq, .int .i64 x.last, .string x.lab, .slice x.HA x.hs.length x.hc] 31)
  have l2 : ((w.alloc (.cells #[.int .i64 z, .int .i64 d, .int .i64 s, .int .i64 l, .int .i64 a] 23)).alloc (.cells #[.int .i64 x.gen, .int .i64 x.ep, .int .i64 x.pos, .int .i64 x.seq, .int .i64 x.last, .string x.lab, .slice x.HA x.hs.length x.hc] 31)).heap.size = w.heap.size + 2 := by simp
  clear s1
  unfold AV.v at *
  go_enter Tryd.func12, Tryd.ntmps12
  go_upto_region 1 with fail
  generalize (w.alloc (.cells #[.int .i64 z, .int .i64 d, .int .i64 s, .int .i64 l, .int .i64 a] 23)).alloc (.cells #[.int .i64 x.gen, .int .i64 x.ep, .int .i64 x.pos, .int .i64 x.seq, .int .i64 x.last, .string x.lab, .slice x.HA x.hs.length x.hc] 31) = w0 at *
  obtain ⟨g0, g1, g2, g3, g4⟩ := id GG
  obtain ⟨c0, c1, c2, c3, c4, c5, c6⟩ := id FX
  go_wp2_with (go_at_call 32; (with_reducible refine (HB.out _ hb0).mono ?_); rintro e w1 ⟨rfl, hb1⟩)
  go_ret2
  exact ⟨⟨none, 0, rfl⟩, bt hb0 hb1⟩
set_option maxRecDepth 100000 in
set_option maxHeartbeats 8000000 in
theorem ncell_go (z d s l a i : Int) (x : AV) (w : World) (q : Nat) (L : List UInt8) (n e2 : Int) (cB : ∀ W, Below w.heap.size w W → Calls Tryd.prog 32 #[.agg #[.int .i64 z, .int .i64 d, .int .i64 s, .int .i64 l, .int .i64 a], x.v] W fun e w' => PutQ W.heap.size q L e w' ∧ Below W.heap.size W w')
    (cA : ∀ W, Calls Tryd.prog 31 #[.agg #[.int .i64 z, .int .i64 d, .int .i64 s, .int .i64 l, .int .i64 a], .int .i64 i] W fun r w' => r = .returned (.tuple #[.int .i64 n, .int .i64 e2]) ∧ Below W.heap.size W w') (R : Nat) (M : List UInt8)
    (cM : e2 = 0 → ∀ (W : World) (Y : Option Addr) (y : Nat), Below w.heap.size w W → Sl W W.heap.size Y L → q ≤ y → y ≤ maxLen → Calls Tryd.prog 33 #[.agg #[.int .i64 n, .int .i64 x.gen, .slice Y q y]] W fun e w' => CellQ W.heap.size R M e w' ∧ Below W.heap.size W w') :
    Calls Tryd.prog 12 #[.agg #[.int .i64 z, .int .i64 d, .int .i64 s, .int .i64 l, .int .i64 a], x.v, .int .i64 i] w fun e' w' => (if e2 = 0 then CellQ w.heap.size R M e' w' else e' = .returned (.tuple #[.slice none 0 0, .int .i64 e2])) ∧ Below w.heap.size w w' := by
  have HB := Lib.hid cB
  have HA := Lib.hid cA
  have HM := Lib.hid cM
  clear cB cA cM
  have s1 : (w.alloc (.cells #[.int .i64 z, .int .i64 d, .int .i64 s, .int .i64 l, .int .i64 a] 23)).heap.size = w.heap.size + 1 := by simp
  have GG := (g5_new w z d s l a).keep (bl (w.alloc (.cells #[.int .i64 z, .int .i64 d, .int .i64 s, .int .i64 l, .int .i64 a] 23)) (.cells #[.int .i64 x.gen, .int .i64 x.ep, .int .i64 x.pos, .int .i64 x.seq, .int .i64 x.last, .string x.lab, .slice x.HA x.hs.length x.hc] 31)) (by omega)
  have FX := ac_new (w.alloc (.cells #[.int .i64 z, .int .i64 d, .int .i64 s, .int .i64 l, .int .i64 a] 23)) x
  rw [s1] at FX
  have hb0 := kal (bl w (.cells #[.int .i64 z, .int .i64 d, .int .i64 s, .int .i64 l, .int .i64 a] 23)) (.cells #[.int .i64 x.gen, .int .i64 x.ep, .int .i64 x.pos, .int .i64 x.seq, .int .i64 x.last, .string x.lab, .slice x.HA x.hs.length x.hc] 31)
  have l2 : ((w.alloc (.cells #[.int .i64 z, .int .i64 d, .int .i64 s, .int .i64 l, .int .i64 a] 23)).alloc (.cells #[.int .i64 x.gen, .int .i64 x.ep, .int .i64 x.pos, .int .i64 x.seq, .int .i64 x.last, .string x.lab, .slice x.HA x.hs.length x.hc] 31)).heap.size = w.heap.size + 2 := by simp
  clear s1
  unfold AV.v at *
  go_enter Tryd.func12, Tryd.ntmps12
  go_upto_region 1 with fail
  generalize (w.alloc (.cells #[.int .i64 z, .int .i64 d, .int .i64 s, .int .i64 l, .int .i64 a] 23)).alloc (.cells #[.int .i64 x.gen, .int .i64 x.ep, .int .i64 x.pos, .int .i64 x.seq, .int .i64 x.last, .string x.lab, .slice x.HA x.hs.length x.hc] 31) = w0 at *
  obtain ⟨g0, g1, g2, g3, g4⟩ := id GG
  obtain ⟨c0, c1, c2, c3, c4, c5, c6⟩ := id FX
  go_upto_region 2 with (go_at_call 32; (with_reducible refine (HB.out _ hb0).mono ?_); rintro e w1 ⟨hpq, hb1⟩; obtain ⟨Y, y, rfl, hlq, hyo⟩ := hpq)
  obtain ⟨A1, c1', hv, hY1, hY2, hsl, -⟩ := hyo.form
  simp only [Value.slice.injEq] at hv
  obtain ⟨rfl, hq, rfl⟩ := hv
  replace GG := GG.keep hb1 (by omega)
  replace FX := FX.keep hb1 (by omega)
  replace hb0 := bt hb0 hb1
  have lz : w.heap.size + 2 ≤ w1.heap.size := by have := hb1.size; omega
  clear g0 g1 g2 g3 g4 c0 c1 c2 c3 c4 c5 c6 hb1 hyo l2 HB hq
  obtain ⟨g0, g1, g2, g3, g4⟩ := id GG
  go_upto_region 5 with (go_at_call 31; (with_reducible refine (HA.out _).mono ?_); rintro e w2 ⟨rfl, hb2⟩)
  have c0 := (FX.keep hb2 (by omega)).c0
  replace hb0 := bt hb0 hb2
  have hs2 := hsl.next hb2
  clear g0 g1 g2 g3 g4 GG FX hb2 hsl HA
  by_cases he : e2 = 0
  · subst he
    have HM2 := Lib.hid (HM.out rfl w2 Y y hb0 hs2 (by omega) hY2)
    clear HM hs2
    go_wp2_with (go_at_call 33; (with_reducible refine HM2.out.mono ?_); rintro e w3 ⟨hcq, hb3⟩; obtain ⟨X3, x3, rfl, h3⟩ := hcq)
    go_ret2
    exact ⟨⟨X3, x3, rfl, h3.less hb0.size⟩, bt hb0 hb3⟩
  · have he1 : (e2 != 0) = true := bne_iff_ne.2 he
    clear HM hs2
    go_wp2_with fail
    go_ret2
    exact ⟨rfl, hb0⟩
/-- A right anchor's cell. -/
theorem ncell_any (hV : ValidOk) (z d s l a i : Int) (x : AV) (w : World) (hT : Tabs w) (ho : Ok z d s l a) (hx : x.In w w.heap.size) (hg : anc.Good z d s l x.d) (h0 : 0 ≤ i) (h1 : i < a) :
    Calls Tryd.prog 12 #[.agg #[.int .i64 z, .int .i64 d, .int .i64 s, .int .i64 l, .int .i64 a], x.v, .int .i64 i] w fun e' w' => CellQ w.heap.size ((encA x.d).length + 11) (enc i.toNat x.gen.toNat (encA x.d)) e' w' ∧ Below w.heap.size w w' := by
  have h9 := ncell_go z d s l a i x w (encA x.d).length (encA x.d) i 0 (fun W hW => bytes_yes hV z d s l a x W (hT.next hW) ho (hx.next hW) hg)
    (fun W => anchor_at z d s l a i i 0 W ho ⟨fun _ => ⟨rfl, rfl⟩, fun h => absurd ⟨h0, h1⟩ h⟩) ((encA x.d).length + 11) (enc i.toNat x.gen.toNat (encA x.d)) (fun _ W Y y hW hs hq hy => by
      have hm := make_any i x.gen Y (encA x.d).length y (encA x.d) W rfl hs
      refine hm.mono ?_
      rintro e w' ⟨hq, hb⟩
      obtain ⟨h96, -, hg0, hg1⟩ := enc96 ho hg
      have hgd : x.d.gen = x.gen := rfl
      rw [hgd] at hg0 hg1
      have hme : made i x.gen (encA x.d) = ⟨0, enc i.toNat x.gen.toNat (encA x.d)⟩ := by
        obtain ⟨-, -, -, -, o5⟩ := ho
        unfold made
        rw [if_pos (by unfold sel.OkS; omega), if_neg (by omega)]
      rw [hme] at hq
      obtain ⟨v, rfl, ho2⟩ := hq
      obtain ⟨X, c, rfl, -, -, -, -⟩ := id ho2.form
      have hl : (enc i.toNat x.gen.toNat (encA x.d)).length = (encA x.d).length + 11 := enc_length _ _ _
      rw [← hl]
      exact ⟨⟨X, c, rfl, ho2⟩, hb⟩)
  simpa using h9
/-- Of an anchor that is not right, of a cell that there is not. -/
theorem ncell_no (hV : ValidOk) (z d s l a i : Int) (x : AV) (w : World) (hT : Tabs w) (hno : ¬ (Ok z d s l a ∧ anc.Good z d s l x.d ∧ 0 ≤ i ∧ i < a)) (hx : x.In w w.heap.size) (hlab : x.lab.size ≤ 4294967296) :
    Calls Tryd.prog 12 #[.agg #[.int .i64 z, .int .i64 d, .int .i64 s, .int .i64 l, .int .i64 a], x.v, .int .i64 i] w fun e' w' => CellNo e' ∧ Below w.heap.size w w' := by
  by_cases ho : Ok z d s l a
  case neg => exact ncell_no1 z d s l a i x w fun W _ => bytes_geo z d s l a x W ho
  by_cases hg : anc.Good z d s l x.d
  case neg => exact ncell_no1 z d s l a i x w fun W hW => bytes_not hV z d s l a x W (hT.next hW) ho (hx.next hW) hlab hg
  have hi : ¬ (0 ≤ i ∧ i < a) := fun h => hno ⟨ho, hg, h⟩
  have h9 := ncell_go z d s l a i x w (encA x.d).length (encA x.d) 0 1 (fun W hW => bytes_yes hV z d s l a x W (hT.next hW) ho (hx.next hW) hg)
    (fun W => anchor_at z d s l a i 0 1 W ho ⟨fun h => absurd h hi, fun _ => ⟨rfl, rfl⟩⟩) 0 [] (fun h => absurd h (by omega))
  refine h9.mono ?_
  rintro e' w' ⟨h, hb⟩
  rw [if_neg (by omega)] at h
  exact ⟨⟨none, 0, h⟩, hb⟩
/-- What the laws ask of package newest. -/
theorem cts_any (hV : ValidOk) (w : World) (hT : Tabs w) : Cts w where
  says := fun z d s l a e addr A n c b W hW ho hn hc hm hA => nsays_any hV z d s l a e addr A n c b W (hT.next hW) ho hn hc hm hA
  says_no := fun z d s l a e addr A n c b W _ ho hn hc hm hA => nsays_geo z d s l a e addr A n c b W ho hn hc hm hA
  pick := fun z d s l a A n c rs W hW ho hn _ _ hna hA hR => npick_any hV z d s l a A n c rs W (hT.next hW) ho hn hna hA hR
  pick_len := fun z d s l a A n c _ W _ ho _ _ _ hna _ _ => npick_len z d s l a A n c W ho hna
  pick_geo := fun z d s l a A n c _ W _ ho _ _ _ _ _ => npick_geo z d s l a A n c W ho
  cell := fun z d s l a i x W hW ho hx hg h0 h1 => ncell_any hV z d s l a i x W (hT.next hW) ho hx hg h0 h1
  cell_no := fun z d s l a i x W hW hno hx hlab => ncell_no hV z d s l a i x W (hT.next hW) hno hx hlab
end Go.Proofs.YtdjleimndolonaaDoor.nwt
