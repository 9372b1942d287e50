/-
  zone.All of the developers' code, its rows told as the call's own; what is written of a zone, step by step (plain). Conditions: each theorem's own.
-/
import Derived.Test.YthdahdopejapmaaGZy
import Derived.Test.YthdahdopejapmaaGSt
import Derived.Test.YthdahdopejapmaaStT
namespace Go.Proofs.Ythdahdopejapmaa.stp
open Go.RowKit Go.Lib
open Go.Proofs.Ythdahdopejapmaa.gmt (Ok)
open Go.Proofs.Ythdahdopejapmaa.anc (bl kal kst ks bm ka)
open Go.Proofs.Ythdahdopejapmaa.tbl (Ent EntOk C1 c1_new G5 g5_new OwnE)
open Go.Proofs.Ythdahdopejapmaa.zon

/-- What all answers, the rows of the call's own. -/
def AllO (base m : Nat) (L : List (List UInt8)) (e : Ending) (w' : World) : Prop := ∃ (g yc : Nat) (yr : List Row) (K : Option Addr) (kc : Nat), e = .returned (.tuple #[.slice (some ⟨g, 0, none⟩) m yc, .slice K m kc, .int .i64 0]) ∧ OwnRows w' base (.slice (some ⟨g, 0, none⟩) m yc) yr L ∧ base ≤ g ∧ g < w'.heap.size ∧ (m ≤ yc ∧ yc ≤ maxLen) ∧ OwnV w' base 4 (.slice K m kc) (bools (kn L))
set_option maxRecDepth 100000 in
set_option maxHeartbeats 8000000 in
theorem all_o (z s l a : Int) (D : Nat) (x : tbl.TV) (N : Nat) (A : Option Addr) (n c : Nat) (w : World) (es : List Ent) (hs : List (List UInt8)) (hnD : n = D + 1) (hD : D ≤ 4) (cC : ∀ W, Below w.heap.size w W → Calls Try.prog 45 #[.agg #[.int .i64 z, .int .i64 D, .int .i64 s, .int .i64 l, .int .i64 a], .agg #[.slice x.A N x.c], .slice A n c] W fun e w' => e = .returned (.int .i64 0) ∧ Below W.heap.size W w') (cF : ∀ W, Below w.heap.size w W → ∀ k : Nat, k < n → Calls Try.prog 46 #[.agg #[.slice x.A N x.c], .slice A n c, .int .i64 k] W fun e w' => FndZ W.heap.size (known n es hs k) e w' ∧ Below W.heap.size W w') :
    Calls Try.prog 27 #[.agg #[.int .i64 z, .int .i64 D, .int .i64 s, .int .i64 l, .int .i64 a], .agg #[.slice x.A N x.c], .slice A n c] w fun e w' => AllO w.heap.size n (knowns n es hs) e w' ∧ Below w.heap.size w w' := by
  have HC := Lib.hid cC
  have HF := Lib.hid cF
  have HnD := Lib.hid hnD
  have hn5 : n ≤ 5 := by omega
  clear cC cF hnD
  have s1 : (w.alloc (.cells #[.int .i64 z, .int .i64 D, .int .i64 s, .int .i64 l, .int .i64 a] 23)).heap.size = w.heap.size + 1 := by simp
  have hx2 := bl (w.alloc (.cells #[.int .i64 z, .int .i64 D, .int .i64 s, .int .i64 l, .int .i64 a] 23)) (.cells #[.slice x.A N x.c] 26)
  have GG := (g5_new w z D s l a).keep hx2 (by omega)
  have TT := c1_new (w.alloc (.cells #[.int .i64 z, .int .i64 D, .int .i64 s, .int .i64 l, .int .i64 a] 23)) (.slice x.A N x.c) 26
  rw [s1] at TT
  have lT : w.heap.size + 1 < ((w.alloc (.cells #[.int .i64 z, .int .i64 D, .int .i64 s, .int .i64 l, .int .i64 a] 23)).alloc (.cells #[.slice x.A N x.c] 26)).heap.size := by simp
  have hw := kal (bl w (.cells #[.int .i64 z, .int .i64 D, .int .i64 s, .int .i64 l, .int .i64 a] 23)) (.cells #[.slice x.A N x.c] 26)
  clear s1 hx2
  go_enter Try.func27, Try.ntmps27
  go_upto_region 1 with fail
  generalize ((w.alloc (.cells #[.int .i64 z, .int .i64 D, .int .i64 s, .int .i64 l, .int .i64 a] 23)).alloc (.cells #[.slice x.A N x.c] 26)) = w0 at *
  obtain ⟨g0, g1, g2, g3, g4⟩ := id GG
  have t0 := TT.c0
  go_upto_region 4 with (go_at_call 45; (with_reducible refine (HC.out _ hw).mono ?_); rintro e w1 ⟨rfl, hb1⟩)
  replace TT := TT.keep hb1 lT
  replace lT := Nat.lt_of_lt_of_le lT hb1.size
  replace hw := bt hw hb1
  clear t0 hb1 HC g0 g1 g2 g3 g4 GG
  have t0 := TT.c0
  go_upto_region 5 with fail
  go_loopw [6, 7, 22] (fun v u i w' => ∃ (k : Nat) (rows : List Row), k ≤ n ∧ i = .int .i64 k ∧ OwnRows w' w1.heap.size v rows ((knowns n es hs).take k) ∧ OwnV w' w1.heap.size 4 u (bools (kn ((knowns n es hs).take k))) ∧ Below w1.heap.size w1 w') (fun _ _ i _ => n - (RowKit.intOf i).toNat)
  case atStart => exact ⟨0, [], by omega, rfl, ownRows_nil _ _, ownV_nil _ _ _, Below.refl _ _⟩
  case round =>
    obtain ⟨w6, rfl⟩ : ∃ x, x = wr := ⟨wr, rfl⟩
    obtain ⟨k, rows, hk, rfl, hor, hob, hbr⟩ := hrel
    by_cases hlt : k < n
    · have j1 : (k : Int) < (n : Int) := by omega
      have t6 := kst hbr lT t0
      have HK := Lib.hid (take_next (knowns_get es hs hlt))
      have HFK := Lib.hid (HF.out w6 (bt hw hbr) k hlt)
      have lw := hbr.size
      have hlr : rows.length = k := by rw [hor.len, List.length_take, knowns_length]; omega
      have hlb : (bools (kn ((knowns n es hs).take k))).length = k := by rw [bools_length, kn_length, List.length_take, knowns_length]; omega
      have HOR := Lib.hid hor
      have HOB := Lib.hid hob
      clear t0 hor hob
      go_upto_region 8 with (go_at_call 46; (with_reducible refine HFK.out.mono ?_); rintro e w7 ⟨⟨X, y, rfl, hov⟩, hb7⟩)
      have HOV := Lib.hid (hov.less lw)
      have HR7 := Lib.hid (HOR.out.below hb7)
      have HB7 := Lib.hid (HOB.out.below hb7)
      have l7 := Nat.le_trans lw hb7.size
      have hb17 := bt hbr hb7
      clear hov HOR HOB t6 hb7 HFK
      generalize known n es hs k = L at *
      have hv1 : (vals rows).length = k := by rw [vals_length, hlr]
      have HON := Lib.hid (HR7.out.alloc (.cells #[.slice X L.length y] 29))
      have HOB2 := Lib.hid (HB7.out.alloc (.cells #[.slice X L.length y] 29))
      have HOV2 := Lib.hid (HOV.out.alloc (.cells #[.slice X L.length y] 29))
      go_upto_region 9 with (at_builtin; refine wpList_appV _ rfl (.tmp 32) (.tmp 34) _ _ rfl w1.heap.size 29 tv _ (vals rows) rfl HON.out.1 _ [Row.v ⟨X, y, L⟩] rfl (srcV_one w7 Try.underlying27 _ rfl _) (by rw [hv1]; unfold maxLen; simp; omega) (by rw [hv1]; simp; omega) (by simp; omega) ?_; intro v8 w8 hown8 hg8 hat8)
      have HR8 := Lib.hid (HON.out.more (r := ⟨X, y, L⟩) HOV2.out hown8 hg8)
      have HB8 := Lib.hid (World.ownsRow.kept HOB2.out hg8 (rows_apart HOB2.out HON.out.1 bool_row))
      have hb18 := (hb17.alloc l7 (.cells #[.slice X L.length y] 29)).grown hg8 (by simp; omega) (fun q hq => (World.ownsRow.lt HON.out.1 q hq).1)
      have l8 := hb18.size
      have hv2 : (bools (kn ((knowns n es hs).take k))).length = k := hlb
      clear hown8 hg8 hat8 HON HOB2 HOV2 HR7 HB7 HOV hv1
      have HOB9 := Lib.hid (show OwnV (w8.alloc (.cells #[.bool (!L.isEmpty)] 4)) w1.heap.size 4 u7 (bools (kn ((knowns n es hs).take k))) from OwnV.alloc HB8.out _)
      go_upto_region 10 with (at_builtin; refine wpList_appV _ rfl (.tmp 36) (.tmp 38) _ _ rfl w1.heap.size 4 tvB _ (bools (kn ((knowns n es hs).take k))) rfl HOB9.out _ [.bool (!L.isEmpty)] rfl (srcV_one w8 Try.underlying53 _ rfl _) (by rw [hv2]; unfold maxLen; simp; omega) (by rw [hv2]; simp; omega) (by simp; omega) ?_; intro v9 w9 hown9 hg9 hat9)
      have hb19 := (hb18.alloc l8 (.cells #[.bool (!L.isEmpty)] 4)).grown hg9 (by simp; omega) (fun q hq => (World.ownsRow.lt HOB9.out q hq).1)
      have HR9 := Lib.hid (OwnRows.kept (HR8.out.alloc (.cells #[.bool (!L.isEmpty)] 4)) HOB9.out row_bool u8_bool hg9)
      have HOW9 := Lib.hid hown9
      clear hown9 hg9 hat9 HOB9 HB8 HR8
      go_wp2_with fail
      go_roundw
      case rel => exact ⟨k + 1, rows ++ [⟨X, y, L⟩], by omega, by go_num, by rw [HK.out]; exact HR9.out, by rw [HK.out]; simp only [kn, List.map_append, bools, List.map_cons, List.map_nil] at HOW9 ⊢; exact HOW9.out, hb19⟩
      case measure => simp [RowKit.intOf]; omega
    · have j1 : ¬ (k : Int) < (n : Int) := by omega
      have e9 : (knowns n es hs).take k = knowns n es hs := List.take_of_length_le (by rw [knowns_length]; omega)
      rw [e9] at hor hob
      have hll : rows.length = n := by rw [hor.len, knowns_length]
      obtain ⟨Y, yc, hv, hy1, hy2, hy3, hy4⟩ := hor.at (knowns_length n es hs) (by rw [HnD.out]; omega)
      obtain ⟨K, kc, hu, -, -, -, -⟩ := id hob.form
      rw [bools_length, kn_length, knowns_length] at hu
      subst hv hu
      have lb := hw.size
      have HO := Lib.hid (OwnRows.less hor lb)
      have HSL := Lib.hid (OwnV.less hob lb)
      clear hor hob e9
      go_wp2_with fail
      go_ret3
      exact ⟨⟨Y, yc, rows, K, kc, rfl, HO.out, by omega, hy4, ⟨hy1, hy2⟩, HSL.out⟩, bt hw hbr⟩

theorem wr_all (z s l a : Int) (D : Nat) (x : tbl.TV) (N : Nat) (h : LV) (n : Nat) (W : World) (ho : Ok z D s l a) (hx : x.In W W.heap.size) (hN : x.es.length = N) (hg : tbl.Good (D : Int) x.es) (hh : h.In W W.heap.size) (hn : h.rs.length = n) (hd : HadOk (D + 1) (lists h.rs)) :
    Calls Try.prog 27 #[.agg #[.int .i64 z, .int .i64 D, .int .i64 s, .int .i64 l, .int .i64 a], .agg #[.slice x.A N x.c], .slice h.A n h.c] W fun e w' => AllO W.heap.size (D + 1) (knowns (D + 1) x.es (lists h.rs)) e w' ∧ Below W.heap.size W w' := by
  have hN1 : N = D + 1 := by have := hg.1; rw [hN] at this; omega
  have hn1 : n = D + 1 := by have := hd.1; rw [lists_length, hn] at this; exact this
  have hD := ho.2.1
  refine (all_o z s l a D x N h.A n h.c W x.es (lists h.rs) hn1 (by omega) (fun W2 hW => check_c 0 z s l a D x N h.A n h.c h.rs W2 ho hN (hx.next hW) hg hn (hh.next hW).h (hh.next hW).r ⟨fun _ => rfl, fun k => absurd hd k⟩) (fun W2 hW k hk => find_c x N h.A h.c n h.rs k W2 hN (hx.next hW) (hh.next hW).h (hh.next hW).r hn (by omega) (by omega) (by rw [hn1]; exact hd) hk)).mono ?_
  rintro e w' ⟨k, hb⟩
  rw [hn1] at k
  exact ⟨k, hb⟩
/-- An entry with its mark as it is known; the table when the first k are so. -/
def markE (D : Nat) (es : List Ent) (hs : List (List UInt8)) (i : Nat) : Ent := { entK es i with ls := decide (known (D + 1) es hs i = []) }
def mid (D : Nat) (es : List Ent) (hs : List (List UInt8)) (k : Nat) : List Ent := (List.range k).map (markE D es hs) ++ es.drop k
section
variable {D : Nat} {es : List Ent} {hs : List (List UInt8)} {ats : List Int} {bs : List (List UInt8)} {st : Int}
theorem mid_zero : mid D es hs 0 = es := by simp [mid]
theorem mid_length {k : Nat} (hk : k ≤ es.length) : (mid D es hs k).length = es.length := by
  unfold mid
  rw [List.length_append, List.length_map, List.length_range, List.length_drop]
  omega
theorem mid_get {k : Nat} (hk : k < es.length) : (mid D es hs k)[k]? = some (entK es k) := by
  unfold mid
  rw [List.getElem?_append_right (by simp), entK, List.getElem?_drop]
  simp [List.getElem?_eq_getElem hk]
theorem mid_next {k : Nat} (hk : k < es.length) : (mid D es hs k).set k { entK es k with ls := decide (known (D + 1) es hs k = []) } = mid D es hs (k + 1) := by
  unfold mid
  have h1 : ((List.range k).map (markE D es hs)).length = k := by simp
  rw [List.set_append_right _ _ (by rw [h1]; exact Nat.le_refl _), h1, Nat.sub_self, range_next, List.append_assoc]
  congr 1
  rw [List.drop_eq_getElem_cons hk]
  rfl
theorem mid_at {k i : Nat} (hi : i < k) : (mid D es hs k)[i]? = some (markE D es hs i) := by
  unfold mid
  rw [List.getElem?_append_left (by simpa using hi)]
  simp [hi]
/-- One of them, its block and its entry, when j of the indices were written. -/
def step (D : Nat) (es : List Ent) (hs : List (List UInt8)) (ats : List Int) (bs : List (List UInt8)) (st : Int) (i j : Nat) : List UInt8 × Ent := pick ats bs st i (known (D + 1) es hs i) (markE D es hs i) j
theorem step_hit {i j : Nat} (h : ats[j]? = some (i : Int)) : step D es hs ats bs st i (j + 1) = (hadK bs j, entS st (hadK bs j)) := by
  unfold step
  rw [pick, if_pos h]
theorem step_miss {i j : Nat} (h : ats[j]? ≠ some (i : Int)) : step D es hs ats bs st i (j + 1) = step D es hs ats bs st i j := by
  unfold step
  rw [pick, if_neg h]
theorem known_held {i : Nat} (h : known (D + 1) es hs i ≠ []) : (entK es i).ls = false := by
  unfold known at h
  split at h
  · exact absurd rfl h
  · rename_i h1
    unfold lostK at h1
    unfold entK
    cases hq : es[i]? with
    | none => rfl
    | some e =>
      rw [hq] at h1
      simpa using h1
theorem step_all (hr : Rising ats) (hl : bs.length = ats.length) (hb : ∀ y ∈ bs, y.length = 8) (i : Nat) : step D es hs ats bs st i ats.length = (newB D es hs ats bs st i, newE D es hs ats bs st i) := by
  by_cases h : ∃ j : Nat, ats[j]? = some (i : Int)
  · obtain ⟨j, hj⟩ := h
    obtain ⟨h1, h2⟩ := newE_at (D := D) (es := es) (hs := hs) (st := st) hr hl hb hj
    rw [h1, h2]
    exact pick_at hr hj (List.getElem?_eq_some_iff.1 hj).1
  · have h2 : ∀ j : Nat, ats[j]? ≠ some (i : Int) := fun j hj => h ⟨j, hj⟩
    obtain ⟨h3, h4⟩ := newE_un (D := D) (es := es) (hs := hs) (bs := bs) (st := st) h2
    rw [h3, h4]
    refine (pick_none fun j _ => h2 j).trans ?_
    congr 1
    unfold markE
    by_cases hk : known (D + 1) es hs i = []
    · rw [if_pos hk, decide_eq_true hk]
    · rw [if_neg hk, decide_eq_false hk, ← known_held hk]
theorem newE_lost (hr : Rising ats) (hl : bs.length = ats.length) (hb : ∀ y ∈ bs, y.length = 8) (i : Nat) : (newE D es hs ats bs st i).ls = true ↔ newB D es hs ats bs st i = [] := by
  by_cases h : ∃ j : Nat, ats[j]? = some (i : Int)
  · obtain ⟨j, hj⟩ := h
    obtain ⟨h1, h2⟩ := newE_at (D := D) (es := es) (hs := hs) (st := st) hr hl hb hj
    have hjl := (List.getElem?_eq_some_iff.1 hj).1
    have h8 := hadK_eight hb (show j < bs.length by omega)
    rw [h1, h2]
    exact iff_of_false Bool.false_ne_true fun h => by rw [h] at h8; cases h8
  · have h2 : ∀ j : Nat, ats[j]? ≠ some (i : Int) := fun j hj => h ⟨j, hj⟩
    obtain ⟨h3, h4⟩ := newE_un (D := D) (es := es) (hs := hs) (bs := bs) (st := st) h2
    rw [h3, h4]
    by_cases hk : known (D + 1) es hs i = []
    · rw [if_pos hk]; exact iff_of_true rfl hk
    · rw [if_neg hk, known_held hk]; exact iff_of_false Bool.false_ne_true hk
end
/-- Entries of one's own: the mark of one written over. -/
theorem setL {w : World} {base q c N j : Nat} {es : List Ent} {e0 : Ent} (b : Bool) (hN : es.length = N) (he : es[j]? = some e0) (h : OwnE w base (.slice (some ⟨q, 0, none⟩) N c) es) :
    OwnE (w.setCell ⟨q, j * 3 + 2, none⟩ (.bool b)) base (.slice (some ⟨q, 0, none⟩) N c) (es.set j { e0 with ls := b }) := by
  subst hN
  have h1 := tbl.TV.Own.store (t := ⟨some ⟨q, 0, none⟩, c, es⟩) (j := j) (i := 2) (e := e0) (e' := { e0 with ls := b }) (v := .bool b) h rfl he (by decide) rfl
  unfold tbl.TV.Own at h1
  simp only [List.length_set] at h1
  exact h1
/-- Rows of one's own beside entries of one's own. -/
theorem lst_ent {w : World} {base base' p q n c N qc : Nat} {rs : List Row} {ls : List (List UInt8)} {es : List Ent} (h : OwnRows w base (.slice (some ⟨q, 0, none⟩) n c) rs ls) (k : OwnE w base' (.slice (some ⟨p, 0, none⟩) N qc) es) : Lst w base p q n c rs := by
  refine ⟨h.1, fun x hx => ?_, fun x hx => own_caps (h.2.2 x hx)⟩
  have ho := h.2.2 x hx
  refine ⟨row_sl ho, fun a ha hl => ⟨?_, ?_⟩⟩
  · intro e
    have h9 := rows_apart ho k u8_ent
    unfold Row.v at h9
    rw [ha, ← e] at h9
    rcases h9 with h9 | h9
    · cases h9
    · exact h9 rfl
  · intro e
    have h9 := own_apart ho h.1 u8_other
    unfold Row.v at h9
    rw [ha, ← e] at h9
    rcases h9 with h9 | h9
    · cases h9
    · exact h9 rfl
theorem ent_g {w : World} {base g q o N qc : Nat} {es : List Ent} (h : OwnE w base (.slice (some ⟨q, 0, none⟩) N qc) es) (hne : q ≠ g) (x : Value) : OwnE (w.setCell ⟨g, o, none⟩ x) base (.slice (some ⟨q, 0, none⟩) N qc) es :=
  have hn : (Value.slice (some ⟨q, 0, none⟩) N qc).ownBlock ≠ some g := fun (k : some q = some g) => hne (Option.some.inj k)
  ownsRow_setCell_other h hn x
theorem bool_ent : 4 ≠ 61 := by decide
theorem ownV_q {w : World} {base base' q o N qc : Nat} {v : Value} {vs : List Value} {es : List Ent} (h : OwnV w base 4 v vs) (k : OwnE w base' (.slice (some ⟨q, 0, none⟩) N qc) es) (x : Value) : OwnV (w.setCell ⟨q, o, none⟩ x) base 4 v vs :=
  ownsRow_setCell_other h (fun (e : v.ownBlock = some q) => (rows_apart h k bool_ent).elim (fun g => by rw [g] at e; cases e) fun g => g e) x
theorem ownV_low {w : World} {base g o : Nat} {e : TypeId} {v : Value} {vs : List Value} (h : OwnV w base e v vs) (hg : g < base) (x : Value) : OwnV (w.setCell ⟨g, o, none⟩ x) base e v vs :=
  ownsRow_setCell_other h (fun k => by have := (World.ownsRow.lt h g k).1; omega) x
section
variable {D : Nat} {es : List Ent} {hs : List (List UInt8)} {ats : List Int} {bs : List (List UInt8)} {st : Int} {E : List Ent}
theorem news_take (h : ∀ i, i < D → E[i]? = some (newE D es hs ats bs st i)) : E.take D = (List.range D).map (newE D es hs ats bs st) := by
  refine List.ext_getElem? fun i => ?_
  by_cases hi : i < D
  · rw [List.getElem?_take_of_lt hi, h i hi]
    simp [hi]
  · rw [List.getElem?_take_eq_none (by omega), List.getElem?_eq_none (by simp; omega)]
theorem news_set (hl : E.length = D + 1) (h : ∀ i, i < D → E[i]? = some (newE D es hs ats bs st i)) : E.set D (entS st (newP D es hs ats bs st D)) = newT D es hs ats bs st := by
  unfold newT
  rw [← news_take h, List.set_eq_take_append_cons_drop, if_pos (by omega), List.drop_eq_nil_of_le (by omega)]
theorem news_lost (h : ∀ i, i < D → E[i]? = some (newE D es hs ats bs st i)) {i : Nat} (hi : i < D) : lostK (E.take D) i = (newE D es hs ats bs st i).ls := lostK_get (by rw [List.getElem?_take_of_lt hi]; exact h i hi)
end
theorem ent_take {w : World} {B D : Nat} {A : Option Addr} {E : List Ent} (h : SlV w B A (tbl.evs E)) : SlV w B A (tbl.evs (E.take D)) := by
  have h1 : tbl.evs E = tbl.evs (E.take D) ++ tbl.evs (E.drop D) := by rw [← tbl.evs_append, List.take_append_drop]
  have h2 := SlV.take h (tbl.evs (E.take D)).length
  rw [h1, List.take_left] at h2
  exact h2
end Go.Proofs.Ythdahdopejapmaa.stp
