/-
  The developers' own makeParity. Conditions: as many members as entries, those that are not lost of eight bytes.
-/
import Derived.Test.YthdahdopejapmaaStYA
import Derived.Test.YthdahdopejapmaaXorA
namespace Go.Proofs.Ythdahdopejapmaa.stp
open Go.RowKit Go.Lib
open Go.Proofs.Ythdahdopejapmaa.gmt (Ok)
open Go.Proofs.Ythdahdopejapmaa.anc (bl kal kst ks bm ka row_form wpList_row)
open Go.Proofs.Ythdahdopejapmaa.tbl (Ent EntOk C1 c1_new G5 g5_new OwnE evs)
open Go.Proofs.Ythdahdopejapmaa.par (zx zeros zeros_length zx_length xall AllLen)
open Go.Proofs.Ythdahdopejapmaa.zon

/-- Those of the first k that are not lost. -/
def selK (es : List Ent) (ms : List (List UInt8)) : Nat → List (List UInt8)
  | 0 => []
  | k + 1 => if lostK es k = true then selK es ms k else selK es ms k ++ [hadK ms k]
theorem selK_lost {es : List Ent} {ms : List (List UInt8)} {k : Nat} (h : lostK es k = true) : selK es ms (k + 1) = selK es ms k := if_pos h
theorem selK_held {es : List Ent} {ms : List (List UInt8)} {k : Nat} (h : lostK es k = false) : selK es ms (k + 1) = selK es ms k ++ [hadK ms k] := if_neg (by rw [h]; exact Bool.false_ne_true)
theorem selK_len {es : List Ent} {ms : List (List UInt8)} : ∀ {k : Nat}, (selK es ms k).length ≤ k
  | 0 => Nat.le_refl _
  | k + 1 => by
    have h := selK_len (es := es) (ms := ms) (k := k)
    rw [selK]
    split
    · omega
    · rw [List.length_append, List.length_singleton]; omega
theorem selK_eight {es : List Ent} {ms : List (List UInt8)} : ∀ {k : Nat}, (∀ i, i < k → lostK es i = false → (hadK ms i).length = 8) → AllLen 8 (selK es ms k)
  | 0, _ => AllLen.nil 8
  | k + 1, h => by
    have h1 := selK_eight (es := es) (ms := ms) (k := k) fun i hi => h i (by omega)
    by_cases hl : lostK es k = true
    · rw [selK_lost hl]; exact h1
    · have hl2 : lostK es k = false := by simpa using hl
      rw [selK_held hl2]
      intro x hx
      rcases List.mem_append.1 hx with g | g
      · exact h1 x g
      · rw [List.mem_singleton.1 g]
        exact h k (by omega) hl2
theorem xall_more (n : Nat) (ls : List (List UInt8)) (l : List UInt8) : xall n (ls ++ [l]) = zx (xall n ls) l := by
  unfold xall
  rw [List.foldl_append]
  rfl
/-- It is the document's parity. -/
theorem selK_newP {D : Nat} {es E : List Ent} {hs ms : List (List UInt8)} {ats : List Int} {bs : List (List UInt8)} {st : Int} : ∀ {k : Nat}, (∀ i, i < k → (lostK E i = true ↔ newB D es hs ats bs st i = []) ∧ hadK ms i = newB D es hs ats bs st i) → xall 8 (selK E ms k) = newP D es hs ats bs st k
  | 0, _ => rfl
  | k + 1, h => by
    have h1 := selK_newP (k := k) fun i hi => h i (by omega)
    obtain ⟨h2, h3⟩ := h k (by omega)
    by_cases hb : newB D es hs ats bs st k = []
    · rw [selK_lost (h2.2 hb), newP_none hb, h1]
    · have hl : lostK E k = false := by
        cases hq : lostK E k
        · rfl
        · exact absurd (h2.1 hq) hb
      rw [selK_held hl, newP_some hb, xall_more, h1, h3]
theorem row_other : 29 ≠ 61 := by decide
set_option maxRecDepth 100000 in
set_option maxHeartbeats 8000000 in
theorem mkpar_c (q qc D : Nat) (es : List Ent) (mA : Option Addr) (M mc : Nat) (rs : List Row) (w : World) (hes : es.length = D) (hD : D ≤ 1048576) (hE : SlV w w.heap.size (some ⟨q, 0, none⟩) (evs es)) (hm : rs.length = M) (hDM : D ≤ M) (hA : SlV w w.heap.size mA (vals rs)) (hR : Rws w w.heap.size rs) (h8 : ∀ i, i < D → lostK es i = false → (hadK (lists rs) i).length = 8) :
    Calls Try.prog 35 #[.slice (some ⟨q, 0, none⟩) D qc, .slice mA M mc] w fun e w' => (∃ (X : Option Addr) (c : Nat), e = .returned (.slice X 8 c) ∧ Own w' w.heap.size 5 (.slice X 8 c) (xall 8 (selK es (lists rs) D))) ∧ Below w.heap.size w w' := by
  have HES := Lib.hid hes
  have HM := Lib.hid hm
  have H8 := Lib.hid h8
  have HE := Lib.hid hE
  have HA := Lib.hid hA
  have HR := Lib.hid hR
  clear hes hm h8 hE hA hR
  go_enter Try.func35, Try.ntmps35
  go_upto_region 3 with fail
  go_loopw [5, 12] (fun v i w' => ∃ (k : Nat) (qs : List Row), k ≤ D ∧ i = .int .i64 k ∧ lists qs = selK es (lists rs) k ∧ Rws w w.heap.size qs ∧ OwnV w' w.heap.size 29 v (vals qs) ∧ Below w.heap.size w w') (fun _ i _ => D - (RowKit.intOf i).toNat)
  case atStart => exact ⟨0, [], by omega, rfl, rfl, Rws.nil _ _, ownV_nil _ _ _, Below.refl _ _⟩
  case round =>
    obtain ⟨w5, rfl⟩ : ∃ x, x = wr := ⟨wr, rfl⟩
    obtain ⟨k, qs, hk, rfl, hqs, hrw, hov, hbr⟩ := hrel
    have lw := hbr.size
    have hql : qs.length ≤ k := by
      have h1 := selK_len (es := es) (ms := lists rs) (k := k)
      rw [← hqs, lists_length] at h1
      exact h1
    by_cases hlt : k < D
    · have j1 : (k : Int) < (D : Int) := by omega
      obtain ⟨b1, off, e, hA1, hb1, c0, c1, c2, -, e1⟩ := tbl.ent_at (HE.out.below hbr) (show k < es.length by rw [HES.out]; exact hlt)
      simp only [Option.some.injEq, Addr.mk.injEq, and_true] at hA1
      obtain ⟨rfl, rfl⟩ := hA1
      rw [Nat.zero_add] at c0 c1 c2
      obtain ⟨b2, o2, r, hbA, hb2, gr, hrs, -, -, r1⟩ := row_at HA.out HR.out (show k < rs.length by rw [HM.out]; omega)
      subst hbA
      have hlk : lostK es k = e.ls := lostK_get e1
      have HQS := Lib.hid hqs
      have HRW := Lib.hid hrw
      have HOV := Lib.hid hov
      have TT := anc.tri_new w5 (.int .i64 e.st) (.int .i64 e.sm) (.bool e.ls) 61
      have hx5 := bl w5 (.cells #[.int .i64 e.st, .int .i64 e.sm, .bool e.ls] 61)
      have HO6 := Lib.hid (HOV.out.below hx5)
      have hb6 := hbr.trans (hx5.mono lw)
      have gr6 := ks hb6 hb2 gr
      have lw6 := hb6.size
      have HRR := Lib.hid (show Rws w w.heap.size (qs ++ [r]) from Rws.append hrw fun y hy => by
        rw [List.mem_singleton.1 hy]
        exact hrs)
      have HKK := Lib.hid (show hadK (lists rs) k = r.l from hadK_get r1)
      clear hqs hrw hov e1 r1 hrs hbr gr
      go_upto_region 5 with fail
      generalize (w5.alloc (.cells #[.int .i64 e.st, .int .i64 e.sm, .bool e.ls] 61)) = w6 at *
      obtain ⟨-, -, t2, -, -, -⟩ := id TT
      obtain ⟨ls, hls⟩ : ∃ ls, ls = e.ls := ⟨_, rfl⟩
      rw [← hls] at t2 hlk
      clear hls TT hx5
      cases ls
      · have HSE := Lib.hid (show lists (qs ++ [r]) = selK es (lists rs) (k + 1) by rw [selK_held hlk, lists_append, HQS.out, HKK.out]; rfl)
        have hql2 : (vals qs).length = qs.length := vals_length qs
        have HO7 := Lib.hid (OwnV.alloc HO6.out (.cells #[.slice r.A r.l.length r.c] 29))
        clear hlk
        go_wp2_with (first
          | (at_builtin
             refine wpList_appV _ rfl (.tmp 20) (.tmp 25) _ _ rfl w.heap.size 29 tv _ (vals qs) rfl HO7.out _ [Row.v r] rfl (srcV_one w6 Try.underlying27 _ rfl _) (by rw [hql2]; unfold maxLen; simp; omega) (by rw [hql2]; simp; omega) (by simp; omega) ?_
             intro v8 w8 hown8 hg8 hat8))
        have hb8 := (ka hb6 (Nat.le_refl _) (.cells #[.slice r.A r.l.length r.c] 29)).grown hg8 (by simp; omega) (fun q hq => (World.ownsRow.lt HO7.out q hq).1)
        have h8 : OwnV w8 w.heap.size 29 v8 (vals (qs ++ [r])) := by rw [vals_append]; exact hown8
        clear hown8 hg8 hat8
        go_roundw
        case rel => exact ⟨k + 1, qs ++ [r], by omega, by go_num, HSE.out, HRR.out, h8, hb8⟩
        case measure => simp [RowKit.intOf]; omega
      · have HSE := Lib.hid (show lists qs = selK es (lists rs) (k + 1) by rw [selK_lost hlk, HQS.out])
        clear hlk
        go_wp2_with fail
        go_roundw
        case rel => exact ⟨k + 1, qs, by omega, by go_num, HSE.out, HRW.out, HO6.out, hb6⟩
        case measure => simp [RowKit.intOf]; omega
    · have j1 : ¬ (k : Int) < (D : Int) := by omega
      obtain rfl : k = D := by omega
      obtain ⟨X, xc, hv, -, -, hsl, -⟩ := hov.form
      rw [vals_length] at hv
      subst hv
      have HAL := Lib.hid (show Calls Try.prog 54 #[.slice X qs.length xc, .int .i64 8] w5 fun e w' => par.Ans w5.heap.size (xall 8 (selK es (lists rs) k)) e w' ∧ Below w5.heap.size w5 w' from by
        have h9 := par.all_ok 8 X xc qs w5 hsl ((hrw.below hbr).more lw) (by decide) (by omega) (by rw [hqs]; exact selK_eight H8.out)
        rw [hqs] at h9
        exact h9)
      have hx8 : (xall 8 (selK es (lists rs) k)).length = 8 := par.xall_length (selK_eight H8.out)
      clear hsl hov hqs hrw
      go_wp2_with (go_at_call 54; (with_reducible refine HAL.out.mono ?_); rintro e w8 ⟨⟨v, rfl, ho8⟩, hb8⟩)
      obtain ⟨X8, c8, hv8, -, -, -, -⟩ := id ho8.form
      rw [hx8] at hv8
      subst hv8
      go_ret
      exact ⟨⟨X8, c8, rfl, ho8.less lw⟩, bt hbr hb8⟩
end Go.Proofs.Ythdahdopejapmaa.stp
