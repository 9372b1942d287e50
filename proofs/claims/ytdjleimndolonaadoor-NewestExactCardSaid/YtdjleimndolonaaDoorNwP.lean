/-
  What the laws of package newest ask of its functions; the laws' own example (wakes). Conditions: 'Cts'.
-/
import Derived.Test.YtdjleimndolonaaDoorNwC
import Derived.Test.YtdjleimndolonaaDoorGAe
import Derived.Test.YtdjleimndolonaaDoorGGm
namespace Go.Proofs.YtdjleimndolonaaDoor.nwt
open Go.RowKit Go.Lib
open Go.Proofs.YtdjleimndolonaaDoor.gmt (Ok five_new)
open Go.Proofs.YtdjleimndolonaaDoor.anc (bl kal kst ks bm ka Anc noAnc AV noAV noAV_own encA RdQ ac_new AC G5 g5_new rfirst_any firstA first_good)
open Go.Proofs.YtdjleimndolonaaDoor.sel (Lies enc enc_length)
open Go.Proofs.YtdjleimndolonaaDoor.lbl (labE)

def errOf (N : Option (Anc × Nat)) : Int := match N with | none => 11 | some _ => 0
def idxOf (N : Option (Anc × Nat)) : Int := match N with | none => 0 | some (_, i) => i
/-- An anchor, where it was picked, an error. -/
def PickR (base : Nat) (X : Anc) (i e' : Int) (e : Ending) (w' : World) : Prop := ∃ y : AV, e = .returned (.tuple #[y.v, .int .i64 i, .int .i64 e']) ∧ y.d = X ∧ y.Own w' base
/-- A cell of q bytes, and no error. -/
def CellQ (base q : Nat) (l : List UInt8) (e : Ending) (w' : World) : Prop := ∃ (X : Option Addr) (x : Nat), e = .returned (.tuple #[.slice X q x, .int .i64 0]) ∧ Own w' base 5 (.slice X q x) l
theorem own_ly {W : World} {base q x : Nat} {e : TypeId} {X : Option Addr} {l : List UInt8} (h : Own W base e (.slice X q x) l) : Lies W X x l := by
  obtain ⟨A, c, hv, h1, h2, hs, -⟩ := h.form
  simp only [Value.slice.injEq] at hv
  obtain ⟨rfl, -, rfl⟩ := hv
  exact ⟨h1, h2, hs⟩
def CellNo (e : Ending) : Prop := ∃ (X : Option Addr) (x : Nat), e = .returned (.tuple #[.slice X 0 x, .int .i64 1])
/-- What is asked of package newest, in every world behind w. -/
structure Cts (w : World) : Prop where
  says : ∀ (z d s l a e addr : Int) (A : Option Addr) (n c : Nat) (b : List UInt8) (W : World), Below w.heap.size w W → Ok z d s l a → b.length = n → n ≤ c → c ≤ maxLen → Sl W W.heap.size A b →
    Calls Tryd.prog 10 #[.agg #[.int .i64 z, .int .i64 d, .int .i64 s, .int .i64 l, .int .i64 a], .agg #[.int .i64 e, .slice A n c], .int .i64 addr] W fun e' w' => RdQ W.heap.size ((sayO z d s l e b addr).getD noAnc) (sayO z d s l e b addr).isSome e' w' ∧ Below W.heap.size W w'
  says_no : ∀ (z d s l a e addr : Int) (A : Option Addr) (n c : Nat) (b : List UInt8) (W : World), Below w.heap.size w W → ¬ Ok z d s l a → b.length = n → n ≤ c → c ≤ maxLen → Sl W W.heap.size A b →
    Calls Tryd.prog 10 #[.agg #[.int .i64 z, .int .i64 d, .int .i64 s, .int .i64 l, .int .i64 a], .agg #[.int .i64 e, .slice A n c], .int .i64 addr] W fun e' w' => RdQ W.heap.size noAnc false e' w' ∧ Below W.heap.size W w'
  pick : ∀ (z d s l a : Int) (A : Option Addr) (n c : Nat) (rs : List GotR) (W : World), Below w.heap.size w W → Ok z d s l a → rs.length = n → n ≤ c → c ≤ maxLen → (n : Int) = a → SlV W W.heap.size A (gvs rs) → GIn W W.heap.size rs →
    Calls Tryd.prog 11 #[.agg #[.int .i64 z, .int .i64 d, .int .i64 s, .int .i64 l, .int .i64 a], .slice A n c] W fun e' w' => PickR W.heap.size (ancOf (newN (sayAt z d s l (gds rs)) n)) (idxOf (newN (sayAt z d s l (gds rs)) n)) (errOf (newN (sayAt z d s l (gds rs)) n)) e' w' ∧ Below W.heap.size W w'
  pick_len : ∀ (z d s l a : Int) (A : Option Addr) (n c : Nat) (rs : List GotR) (W : World), Below w.heap.size w W → Ok z d s l a → rs.length = n → n ≤ c → c ≤ maxLen → (n : Int) ≠ a → SlV W W.heap.size A (gvs rs) → GIn W W.heap.size rs →
    Calls Tryd.prog 11 #[.agg #[.int .i64 z, .int .i64 d, .int .i64 s, .int .i64 l, .int .i64 a], .slice A n c] W fun e' w' => PickR W.heap.size noAnc 0 2 e' w' ∧ Below W.heap.size W w'
  pick_geo : ∀ (z d s l a : Int) (A : Option Addr) (n c : Nat) (rs : List GotR) (W : World), Below w.heap.size w W → ¬ Ok z d s l a → rs.length = n → n ≤ c → c ≤ maxLen → SlV W W.heap.size A (gvs rs) → GIn W W.heap.size rs →
    Calls Tryd.prog 11 #[.agg #[.int .i64 z, .int .i64 d, .int .i64 s, .int .i64 l, .int .i64 a], .slice A n c] W fun e' w' => PickR W.heap.size noAnc 0 1 e' w' ∧ Below W.heap.size W w'
  cell : ∀ (z d s l a i : Int) (x : AV) (W : World), Below w.heap.size w W → Ok z d s l a → x.In W W.heap.size → anc.Good z d s l x.d → 0 ≤ i → i < a →
    Calls Tryd.prog 12 #[.agg #[.int .i64 z, .int .i64 d, .int .i64 s, .int .i64 l, .int .i64 a], x.v, .int .i64 i] W fun e' w' => CellQ W.heap.size ((encA x.d).length + 11) (enc i.toNat x.gen.toNat (encA x.d)) e' w' ∧ Below W.heap.size W w'
  cell_no : ∀ (z d s l a i : Int) (x : AV) (W : World), Below w.heap.size w W → ¬ (Ok z d s l a ∧ anc.Good z d s l x.d ∧ 0 ≤ i ∧ i < a) → x.In W W.heap.size → x.lab.size ≤ 4294967296 →
    Calls Tryd.prog 12 #[.agg #[.int .i64 z, .int .i64 d, .int .i64 s, .int .i64 l, .int .i64 a], x.v, .int .i64 i] W fun e' w' => CellNo e' ∧ Below W.heap.size W w'
theorem Cts.next {w w' : World} (h : Cts w) (hb : Below w.heap.size w w') : Cts w' :=
  ⟨fun z d s l a e addr A n c b W hW => h.says z d s l a e addr A n c b W (bt hb hW), fun z d s l a e addr A n c b W hW => h.says_no z d s l a e addr A n c b W (bt hb hW), fun z d s l a A n c rs W hW => h.pick z d s l a A n c rs W (bt hb hW), fun z d s l a A n c rs W hW => h.pick_len z d s l a A n c rs W (bt hb hW), fun z d s l a A n c rs W hW => h.pick_geo z d s l a A n c rs W (bt hb hW), fun z d s l a i x W hW => h.cell z d s l a i x W (bt hb hW), fun z d s l a i x W hW => h.cell_no z d s l a i x W (bt hb hW)⟩

theorem ok_two : Ok 1 1 0 14 2 := by unfold Ok; omega
theorem lab_none : labE (⟨#[]⟩ : ByteArray).data.toList = 0 := by decide
theorem good_two : anc.Good 1 1 0 14 (firstA 1 1 ⟨#[]⟩) := first_good ok_two lab_none
set_option maxRecDepth 100000 in
set_option maxHeartbeats 8000000 in
theorem some_two (w : World) :
    Calls Tryd.prog 23 #[.int .i64 0, .int .i64 0, .int .i64 0, .int .i64 0, .int .i64 1] w fun e w' => e = .returned (.agg #[.int .i64 1, .int .i64 1, .int .i64 0, .int .i64 14, .int .i64 2]) ∧ Below w.heap.size w w' := by
  go_enter Tryd.func23, Tryd.ntmps23
  go_wp2
  obtain ⟨g0, g1, g2, g3, g4⟩ := five_new w 1 1 0 14 2
  exact bodyPost_ret (v := .agg #[.int .i64 1, .int .i64 1, .int .i64 0, .int .i64 14, .int .i64 2]) (by simp [results, Tryd.results23, go_sem, g0, g1, g2, g3, g4]) rfl ⟨rfl, bl w _⟩
theorem says_enc {z d s l : Int} {X : Anc} {i : Nat} (hg : anc.Good z d s l X) (hi : i < 65536) : Says z d s l 0 (enc i X.gen.toNat (encA X)) (i : Int) X := ⟨rfl, by omega, by omega, hg, by rw [Int.toNat_natCast]⟩
theorem says_not6 {z d s l e addr : Int} {b : List UInt8} (he : e ≠ 0) : sayO z d s l e b addr = none := sayO_none fun _ h => he h.1
theorem says_nil {z d s l e addr : Int} : sayO z d s l e [] addr = none := sayO_none fun X h => by
  have := congrArg List.length h.2.2.2.2
  rw [enc_length] at this
  simp at this
set_option maxRecDepth 100000 in
set_option maxHeartbeats 8000000 in
theorem wk_new (w : World) (hc : Cts w) :
    Calls Tryd.prog 16 #[] w fun e w' => e = .returned (.bool true) ∧ Below w.heap.size w w' := by
  have HC := Lib.hid hc
  clear hc
  go_enter Tryd.func16, Tryd.ntmps16
  go_upto_region 2 with (go_at_call 23; (with_reducible refine (some_two _).mono ?_); rintro e w1 ⟨rfl, hb1⟩)
  have hx1 := bl w1 (.cells #[.int .i64 1, .int .i64 1, .int .i64 0, .int .i64 14, .int .i64 2] 23)
  have GG := g5_new w1 1 1 0 14 2
  have B1 := bt hb1 hx1
  obtain ⟨gG, hgG⟩ : ∃ g, g = w1.heap.size := ⟨_, rfl⟩
  rw [← hgG] at GG ⊢
  have lG : gG < (w1.alloc (.cells #[.int .i64 1, .int .i64 1, .int .i64 0, .int .i64 14, .int .i64 2] 23)).heap.size := by rw [hgG]; simp
  clear hb1 hx1 hgG
  generalize w1.alloc (.cells #[.int .i64 1, .int .i64 1, .int .i64 0, .int .i64 14, .int .i64 2] 23) = w2 at *
  obtain ⟨g0, g1, g2, g3, g4⟩ := id GG
  go_upto_region 3 with (go_at_call 24; (with_reducible refine (rfirst_any 1 1 0 14 2 ⟨#[]⟩ _ ok_two).mono ?_); rintro e w3 ⟨⟨x, hex, hxd, hxo⟩, hb3⟩; rw [AV.v] at hex; subst hex)
  have hx3 := bl w3 (.cells #[.int .i64 x.gen, .int .i64 x.ep, .int .i64 x.pos, .int .i64 x.seq, .int .i64 x.last, .string x.lab, .slice x.HA x.hs.length x.hc] 31)
  have FF := ac_new w3 x
  have HXI := Lib.hid ((AV.Own.inn hxo).next hx3)
  replace GG := (GG.keep hb3 lG).keep hx3 (Nat.lt_of_lt_of_le lG hb3.size)
  replace B1 := bt (bt B1 hb3) hx3
  replace lG := Nat.lt_of_lt_of_le lG hb3.size
  obtain ⟨gA, hgA⟩ : ∃ g, g = w3.heap.size := ⟨_, rfl⟩
  rw [← hgA] at FF lG ⊢
  have lA : gA < (w3.alloc (.cells #[.int .i64 x.gen, .int .i64 x.ep, .int .i64 x.pos, .int .i64 x.seq, .int .i64 x.last, .string x.lab, .slice x.HA x.hs.length x.hc] 31)).heap.size := by rw [hgA]; simp
  have HXD := Lib.hid hxd
  clear hb3 hx3 hgA hxo hxd g0 g1 g2 g3 g4
  generalize w3.alloc (.cells #[.int .i64 x.gen, .int .i64 x.ep, .int .i64 x.pos, .int .i64 x.seq, .int .i64 x.last, .string x.lab, .slice x.HA x.hs.length x.hc] 31) = w4 at *
  have hgood : anc.Good 1 1 0 14 x.d := by rw [HXD.out]; exact good_two
  have hge : x.gen = 1 := congrArg Anc.gen HXD.out
  have hlen := (enc96 ok_two hgood).1
  obtain ⟨L, hL⟩ : ∃ L, L = enc 1 x.gen.toNat (encA x.d) := ⟨_, rfl⟩
  obtain ⟨q, hq⟩ : ∃ q, q = (encA x.d).length + 11 := ⟨_, rfl⟩
  have hLq : L.length = q := by rw [hL, enc_length, hq]
  have HCL := Lib.hid (show Calls Tryd.prog 12 #[.agg #[.int .i64 1, .int .i64 1, .int .i64 0, .int .i64 14, .int .i64 2], x.v, .int .i64 1] w4 fun e' w' => CellQ w4.heap.size q L e' w' ∧ Below w4.heap.size w4 w' from by
    have h9 := HC.out.cell 1 1 0 14 2 1 x w4 B1 ok_two HXI.out hgood (by omega) (by omega)
    rw [hL, hq]
    exact h9)
  unfold AV.v at HCL
  have HSY := Lib.hid (show Says 1 1 0 14 0 L ((1 : Nat) : Int) x.d from by rw [hL]; exact says_enc hgood (by omega))
  have HLQ := Lib.hid hLq
  have HGE := Lib.hid hge
  have HQ := Lib.hid (show q ≤ 107 by omega)
  clear hgood hge hlen hL hq hLq HXI
  obtain ⟨g0, g1, g2, g3, g4⟩ := id GG
  obtain ⟨c0, c1, c2, c3, c4, c5, c6⟩ := id FF
  go_upto_region 4 with (go_at_call 12; (with_reducible refine HCL.out.mono ?_); rintro e w5 ⟨⟨Y, y, rfl, hYo⟩, hb5⟩; have hY := own_ly hYo; clear hYo)
  replace GG := GG.keep hb5 (by omega)
  replace B1 := bt B1 hb5
  replace lG : gG < w5.heap.size := by have := hb5.size; omega
  clear g0 g1 g2 g3 g4 c0 c1 c2 c3 c4 c5 c6 hb5 FF lA HCL
  obtain ⟨g0, g1, g2, g3, g4⟩ := id GG
  have hN1 : newN (sayAt 1 1 0 14 (gds [⟨6, none, 0, []⟩, ⟨0, Y, y, L⟩])) 2 = some (x.d, 1) := by
    have a0 : sayAt 1 1 0 14 (gds [⟨6, none, 0, []⟩, ⟨0, Y, y, L⟩]) 0 = none := says_not6 (by decide)
    have a1 : sayAt 1 1 0 14 (gds [⟨6, none, 0, []⟩, ⟨0, Y, y, L⟩]) 1 = some x.d := sayO_some ok_two HSY.out
    show stepN (stepN none 0 (sayAt 1 1 0 14 (gds [⟨6, none, 0, []⟩, ⟨0, Y, y, L⟩]) 0)) 1 (sayAt 1 1 0 14 (gds [⟨6, none, 0, []⟩, ⟨0, Y, y, L⟩]) 1) = _
    rw [a0, a1]
    rfl
  have hN2 : newN (sayAt 1 1 0 14 (gds [⟨6, none, 0, []⟩, ⟨0, none, 0, []⟩])) 2 = none := by
    have a0 : sayAt 1 1 0 14 (gds [⟨6, none, 0, []⟩, ⟨0, none, 0, []⟩]) 0 = none := says_not6 (by decide)
    have a1 : sayAt 1 1 0 14 (gds [⟨6, none, 0, []⟩, ⟨0, none, 0, []⟩]) 1 = none := says_nil
    show stepN (stepN none 0 (sayAt 1 1 0 14 (gds [⟨6, none, 0, []⟩, ⟨0, none, 0, []⟩]) 0)) 1 (sayAt 1 1 0 14 (gds [⟨6, none, 0, []⟩, ⟨0, none, 0, []⟩]) 1) = _
    rw [a0, a1]
    rfl
  have HP1 := Lib.hid (show Calls Tryd.prog 11 #[.agg #[.int .i64 1, .int .i64 1, .int .i64 0, .int .i64 14, .int .i64 2], .slice (some ⟨w5.heap.size, 0, none⟩) 2 2] (w5.alloc (.cells #[.int .i64 6, .slice none 0 0, .int .i64 0, .slice Y q y] 28)) fun e' w' => PickR (w5.alloc (.cells #[.int .i64 6, .slice none 0 0, .int .i64 0, .slice Y q y] 28)).heap.size x.d 1 0 e' w' ∧ Below (w5.alloc (.cells #[.int .i64 6, .slice none 0 0, .int .i64 0, .slice Y q y] 28)).heap.size (w5.alloc (.cells #[.int .i64 6, .slice none 0 0, .int .i64 0, .slice Y q y] 28)) w' from by
    have h9 := HC.out.pick 1 1 0 14 2 (some ⟨w5.heap.size, 0, none⟩) 2 2 [⟨6, none, 0, []⟩, ⟨0, Y, y, L⟩] (w5.alloc (.cells #[.int .i64 6, .slice none 0 0, .int .i64 0, .slice Y q y] 28)) (kal B1 _) ok_two rfl (by omega) (by decide) rfl (SlV.of_block (heap_alloc_new w5 (.cells #[.int .i64 6, .slice none 0 0, .int .i64 0, .slice Y q y] 28)) (by show [_, _, _, _] = [_, _, _, Value.slice Y L.length y]; rw [HLQ.out]; rfl) (by simp)) (fun r hr => by
      rcases List.mem_cons.1 hr with rfl | hr2
      · exact ⟨Sl.nil _ _ _, by simp, Nat.zero_le _⟩
      · obtain rfl := List.mem_singleton.1 hr2
        exact ⟨hY.2.2.next (bl w5 _), hY.1, hY.2.1⟩)
    rw [hN1] at h9
    exact h9)
  have HN2 := Lib.hid hN2
  clear hN1 hN2
  go_upto_region 5 with (go_at_call 11; (with_reducible refine HP1.out.mono ?_); rintro e w6 ⟨⟨p, hep, hpd, -⟩, hb6⟩; rw [AV.v] at hep; subst hep; have hb6' := bt (bl w5 _) hb6; replace GG := GG.keep hb6' (by omega))
  have hx7 := bl w6 (.cells #[.int .i64 p.gen, .int .i64 p.ep, .int .i64 p.pos, .int .i64 p.seq, .int .i64 p.last, .string p.lab, .slice p.HA p.hs.length p.hc] 31)
  have FP := ac_new w6 p
  replace GG := GG.keep hx7 (by have := hb6'.size; omega)
  replace B1 := bt (bt B1 hb6') hx7
  replace lG : gG < w6.heap.size := by have := hb6'.size; omega
  have hpg : p.gen = 1 := (congrArg Anc.gen hpd).trans HGE.out
  obtain ⟨gP, hgP⟩ : ∃ g, g = w6.heap.size := ⟨_, rfl⟩
  rw [← hgP] at FP lG ⊢
  have lP : gP < (w6.alloc (.cells #[.int .i64 p.gen, .int .i64 p.ep, .int .i64 p.pos, .int .i64 p.seq, .int .i64 p.last, .string p.lab, .slice p.HA p.hs.length p.hc] 31)).heap.size := by rw [hgP]; simp
  have HPG := Lib.hid hpg
  clear hb6 hb6' hx7 hgP hpg hpd g0 g1 g2 g3 g4 HP1 hY
  generalize w6.alloc (.cells #[.int .i64 p.gen, .int .i64 p.ep, .int .i64 p.pos, .int .i64 p.seq, .int .i64 p.last, .string p.lab, .slice p.HA p.hs.length p.hc] 31) = w7 at *
  have HP2 := Lib.hid (show Calls Tryd.prog 11 #[.agg #[.int .i64 1, .int .i64 1, .int .i64 0, .int .i64 14, .int .i64 2], .slice (some ⟨w7.heap.size, 0, none⟩) 2 2] (w7.alloc (.cells #[.int .i64 6, .slice none 0 0, .int .i64 0, .slice none 0 0] 28)) fun e' w' => PickR (w7.alloc (.cells #[.int .i64 6, .slice none 0 0, .int .i64 0, .slice none 0 0] 28)).heap.size noAnc 0 11 e' w' ∧ Below (w7.alloc (.cells #[.int .i64 6, .slice none 0 0, .int .i64 0, .slice none 0 0] 28)).heap.size (w7.alloc (.cells #[.int .i64 6, .slice none 0 0, .int .i64 0, .slice none 0 0] 28)) w' from by
    have h9 := HC.out.pick 1 1 0 14 2 (some ⟨w7.heap.size, 0, none⟩) 2 2 [⟨6, none, 0, []⟩, ⟨0, none, 0, []⟩] (w7.alloc (.cells #[.int .i64 6, .slice none 0 0, .int .i64 0, .slice none 0 0] 28)) (kal B1 _) ok_two rfl (by omega) (by decide) rfl (SlV.of_block (heap_alloc_new w7 (.cells #[.int .i64 6, .slice none 0 0, .int .i64 0, .slice none 0 0] 28)) rfl (by simp)) (fun r hr => by
      rcases List.mem_cons.1 hr with rfl | hr2
      · exact ⟨Sl.nil _ _ _, by simp, Nat.zero_le _⟩
      · obtain rfl := List.mem_singleton.1 hr2
        exact ⟨Sl.nil _ _ _, by simp, Nat.zero_le _⟩)
    rw [HN2.out] at h9
    exact h9)
  have p0 := FP.c0
  rw [HPG.out] at p0
  obtain ⟨g0, g1, g2, g3, g4⟩ := id GG
  go_upto_region 6 with (go_at_call 11; (with_reducible refine HP2.out.mono ?_); rintro e w8 ⟨⟨r, her, -, -⟩, hb8⟩; rw [AV.v] at her; subst her; have hb8' := bt (bl w7 _) hb8)
  have hx9 := bl w8 (.cells #[.int .i64 r.gen, .int .i64 r.ep, .int .i64 r.pos, .int .i64 r.seq, .int .i64 r.last, .string r.lab, .slice r.HA r.hs.length r.hc] 31)
  have p0' := kst hx9 (by have := hb8'.size; omega) (kst hb8' lP p0)
  have B9 := bt (bt B1 hb8') hx9
  clear p0 g0 g1 g2 g3 g4 hb8 hb8' hx9 HP2
  generalize w8.alloc (.cells #[.int .i64 r.gen, .int .i64 r.ep, .int .i64 r.pos, .int .i64 r.seq, .int .i64 r.last, .string r.lab, .slice r.HA r.hs.length r.hc] 31) = w9 at *
  go_wp2_with fail
  go_ret
  exact ⟨rfl, B9⟩
end Go.Proofs.YtdjleimndolonaaDoor.nwt
