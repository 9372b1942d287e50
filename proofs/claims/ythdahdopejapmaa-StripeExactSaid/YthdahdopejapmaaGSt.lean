/-
  Package stripe's law and the document's: are they blocks (blocksRight), are they indices, rising (Ats). Conditions: each theorem's own.
  What is written of a zone, as plain data: the new blocks, entries, parity, table. Conditions: each theorem's own.
  A table of one's own whose entries are written over one by one; what is written so far. Conditions: each theorem's own.
  What stays, what is written of a zone's entries: as the law asks. Plain mathematics; no condition beyond each theorem's own.
  The document's own images of a zone (Images). Conditions: a right table, as many blocks as indices, at most twenty.
  The document's own answer to what is written of a zone (Written). Conditions: a right zone, right indices, as many blocks.
  What the laws of package stripe ask of its functions; the laws' own example (wakes). Conditions: 'Cst'.
-/
import Derived.Test.YthdahdopejapmaaGZn
import Derived.Test.YthdahdopejapmaaKeepInts
import Derived.Test.YthdahdopejapmaaGTa
import Derived.Deep.QuietTactic
import Derived.BigQuiet
import Derived.IntWalk
import Derived.Test.YthdahdopejapmaaTbO
import Derived.Test.YthdahdopejapmaaGImg
import Derived.Deep.RegionHeld3
namespace Go.Proofs.Ythdahdopejapmaa.stp
open Go.RowKit Go.Lib
open Go.Proofs.Ythdahdopejapmaa.zon (LV)

/-- Indices below m, at least one, rising. -/
def Rising (l : List Int) : Prop := ∀ (j : Nat) (x y : Int), l[j]? = some x → l[j + 1]? = some y → x < y
def AtsOk (m : Int) (l : List Int) : Prop := l ≠ [] ∧ (∀ x ∈ l, 0 ≤ x ∧ x ≤ m - 1) ∧ Rising l
set_option maxRecDepth 100000 in
set_option maxHeartbeats 4000000 in
theorem blocks_c (b : Bool) (A : Option Addr) (n c : Nat) (rs : List Row) (w : World) (hn : rs.length = n) (hn1 : n ≤ 1048576) (hA : SlV w w.heap.size A (vals rs)) (hR : Rws w w.heap.size rs) (hb : b = true ↔ ∀ h ∈ lists rs, h.length = 8) :
    Calls Try.prog 19 #[.slice A n c] w fun e w' => e = .returned (.bool b) ∧ Below w.heap.size w w' := by
  have HC := Lib.hid hb
  clear hb
  go_enter Try.func19, Try.ntmps19
  go_upto_region 2 with fail
  go_loop [3] (fun i => ∃ k : Nat, i = .int .i64 k ∧ k ≤ n ∧ ∀ h ∈ (lists rs).take k, h.length = 8) (fun i => n - (RowKit.intOf i).toNat)
  case atStart => exact ⟨0, rfl, by omega, fun h hh => by simp at hh⟩
  case round =>
    obtain ⟨k, rfl, hk, hs2⟩ := hrel
    by_cases hlt : k < n
    · have j1 : (k : Int) < (n : Int) := by omega
      obtain ⟨b1, off, r, rfl, hb1, g, -, -, -, e1⟩ := row_at hA hR (show k < rs.length by omega)
      by_cases h3 : r.l.length = 8
      · have HN : Hid (∀ h ∈ (lists rs).take (k + 1), h.length = 8) := Lib.hid fun h hm => by
          rw [take_next e1] at hm
          rcases List.mem_append.1 hm with hm | hm
          · exact hs2 h hm
          · obtain rfl := List.mem_singleton.1 hm
            exact h3
        have j4 : ((r.l.length : Int) != 8) = false := by rw [h3]; rfl
        clear hs2 e1 h3
        go_wp2_with fail
        go_round
        case rel => exact ⟨k + 1, by go_num, by omega, HN.out⟩
        case measure => simp [RowKit.intOf]; omega
      · have j4 : ((r.l.length : Int) != 8) = true := bne_iff_ne.2 fun h => h3 (by omega)
        have H : Hid (b = false) := Lib.hid (by cases b; rfl; exact absurd (HC.out.1 rfl r.l (List.mem_of_getElem? e1)) h3)
        clear hs2 e1 h3
        go_wp2_with fail
        go_ret
        exact ⟨ret_bool H.out.symm, Below.refl _ _⟩
    · have j1 : ¬ (k : Int) < (n : Int) := by omega
      have H : Hid (b = true) := Lib.hid (HC.out.2 fun h hh => hs2 h (by rw [List.take_of_length_le (by rw [lists_length]; omega)]; exact hh))
      clear hs2
      go_wp2_with fail
      go_ret
      exact ⟨ret_bool H.out.symm, Below.refl _ _⟩
/-- The whole is rising where each next is. -/
theorem rising_next {l : List Int} {k : Nat} {x : Int} (h : ∀ (j : Nat) (x y : Int), j + 1 < k → l[j]? = some x → l[j + 1]? = some y → x < y) (hk : l[k]? = some x) (hp : ∀ j y, j + 1 = k → l[j]? = some y → y < x) : ∀ (j : Nat) (x y : Int), j + 1 < k + 1 → l[j]? = some x → l[j + 1]? = some y → x < y := by
  intro j u v hj hu hv
  by_cases e : j + 1 = k
  · rw [e, hk] at hv
    obtain rfl := Option.some.inj hv
    exact hp j u e hu
  · exact h j u v (by omega) hu hv
set_option maxRecDepth 100000 in
set_option maxHeartbeats 4000000 in
theorem ats_c (b : Bool) (A : Option Addr) (n c : Nat) (l : List Int) (m : Int) (w : World) (hl : l.length = n) (hn1 : n ≤ 9223372036854775807) (hA : SlV w w.heap.size A (ints l)) (hm : 0 ≤ m ∧ m ≤ 1048576) (hb : b = true ↔ AtsOk m l) :
    Calls Try.prog 18 #[.slice A n c, .int .i64 m] w fun e w' => e = .returned (.bool b) ∧ Below w.heap.size w w' := by
  have HC := Lib.hid hb
  have HL := Lib.hid hl
  have n1 : IntKind.i64.wrap (m - 1) = m - 1 := gmt.w6 _ (by omega) (by omega)
  clear hb hl
  go_enter Try.func18, Try.ntmps18
  go_upto_region 2 with fail
  go_loopw [5] (fun i w' => ∃ k : Nat, i = .int .i64 k ∧ k ≤ n ∧ (∀ x ∈ l.take k, 0 ≤ x ∧ x ≤ m - 1) ∧ (∀ (j : Nat) (x y : Int), j + 1 < k → l[j]? = some x → l[j + 1]? = some y → x < y) ∧ Below w.heap.size w w') (fun i _ => n - (RowKit.intOf i).toNat)
  case atStart => exact ⟨0, rfl, by omega, fun h hh => by simp at hh, fun j x y hj => by omega, Below.refl _ _⟩
  case round =>
    obtain ⟨w1, rfl⟩ : ∃ q, q = wr := ⟨wr, rfl⟩
    obtain ⟨k, rfl, hk, hs2, hs3, hbr⟩ := hrel
    by_cases hlt : k < n
    · have j1 : (k : Int) < (n : Int) := by omega
      have hkl : k < l.length := by rw [HL.out]; exact hlt
      obtain ⟨b1, off, rfl, hb1, hcs⟩ := (hA.next hbr) (by rw [ints_length]; omega)
      have g := hcs k (by rw [ints_length]; exact hkl)
      rw [ints_get] at g
      have e1 : l[k]? = some l[k] := List.getElem?_eq_getElem hkl
      have hmem : l[k] ∈ l := List.getElem_mem hkl
      have hp0 : ∀ (j : Nat) (hj : j + 1 = k), w1.cell? ⟨b1, off + j, none⟩ = some (.int .i64 (l[j]'(by omega))) := fun j hj => by
        have := hcs j (by rw [ints_length]; omega)
        rw [ints_get] at this
        exact this
      by_cases h3 : 0 ≤ l[k] ∧ l[k] ≤ m - 1
      · have HIN := Lib.hid (show ∀ q, Calls Try.prog 39 #[.int .i64 l[k], .int .i64 0, .int .i64 (m - 1)] (w1.drewN q) fun e w' => e = .returned (.bool true) ∧ ∃ t, w' = (w1.drewN q).drewN t from fun q => (tbl.r8in_at true l[k] 0 (m - 1) (w1.drewN q) (iff_of_true rfl h3)).mono fun e w' ⟨h1, h2⟩ => ⟨h1, 0, h2.symm⟩)
        have HN : Hid (∀ h ∈ l.take (k + 1), 0 ≤ h ∧ h ≤ m - 1) := Lib.hid fun h hm2 => by
          rw [List.take_succ_eq_append_getElem hkl] at hm2
          rcases List.mem_append.1 hm2 with hm2 | hm2
          · exact hs2 h hm2
          · obtain rfl := List.mem_singleton.1 hm2
            exact h3
        clear h3
        obtain ⟨x, hx⟩ : ∃ x, x = l[k] := ⟨_, rfl⟩
        rw [← hx] at g e1 HIN
        by_cases hk0 : k = 0
        · have HR := Lib.hid (rising_next hs3 e1 (fun j y hj => by omega))
          have q0 : decide (0 < k) = false := decide_eq_false (by omega)
          clear hs2 hs3 e1 hk0 hmem hp0 hcs hx hkl hA
          go_wp2_with fail
          go_quiet ((go_at_call 39; with_reducible refine Calls.quiet_of (HIN.out _)))
          have hbq := below_dn hbr nq
          generalize w1.drewN nq = wq at *
          go_wp2_with fail
          go_roundw
          case rel => exact ⟨k + 1, by go_num, by omega, HN.out, HR.out, hbq⟩
          case measure => simp [RowKit.intOf]; omega
        · obtain ⟨j, rfl⟩ : ∃ j, k = j + 1 := ⟨k - 1, by omega⟩
          have g2 := hp0 j rfl
          have n2 : IntKind.i64.wrap (((j + 1 : Nat) : Int) - 1) = (j : Int) := by rw [show ((j + 1 : Nat) : Int) - 1 = (j : Int) by omega]; exact IntWalk.i64_in _ (by omega)
          have j2 : (0 : Int) < ((j + 1 : Nat) : Int) := by omega
          have j3 : (j : Int) < (n : Int) := by omega
          have ej : l[j]? = some (l[j]'(by omega)) := List.getElem?_eq_getElem (by omega)
          obtain ⟨y, hy⟩ : ∃ y, y = l[j]'(by omega) := ⟨_, rfl⟩
          rw [← hy] at g2 ej
          by_cases hxy : y < x
          · have HR := Lib.hid (rising_next hs3 e1 (fun i u hi hu => by
              obtain rfl : i = j := by omega
              rw [ej] at hu
              obtain rfl := Option.some.inj hu
              exact hxy))
            have q1 : ¬ x ≤ y := by omega
            clear hs2 hs3 e1 hmem hp0 hcs hx hkl hA ej hy hxy hk0
            go_wp2_with fail
            go_quiet ((go_at_call 39; with_reducible refine Calls.quiet_of (HIN.out _)))
            have hbq := below_dn hbr nq
            generalize w1.drewN nq = wq at *
            go_wp2_with fail
            go_roundw
            case rel => exact ⟨j + 1 + 1, by go_num, by omega, HN.out, HR.out, hbq⟩
            case measure => simp [RowKit.intOf]; omega
          · have q1 : x ≤ y := by omega
            have H : Hid (b = false) := Lib.hid (by
              cases b
              · rfl
              · have := (HC.out.1 rfl).2.2 j y x ej e1
                omega)
            clear hs2 hs3 e1 hmem hp0 hcs hx hkl hA ej hy hxy hk0
            go_wp2_with fail
            go_quiet ((go_at_call 39; with_reducible refine Calls.quiet_of (HIN.out _)))
            have hbq := below_dn hbr nq
            generalize w1.drewN nq = wq at *
            go_wp2_with fail
            go_ret
            exact ⟨ret_bool H.out.symm, hbq⟩
      · have HIN := Lib.hid (show ∀ q, Calls Try.prog 39 #[.int .i64 l[k], .int .i64 0, .int .i64 (m - 1)] (w1.drewN q) fun e w' => e = .returned (.bool false) ∧ ∃ t, w' = (w1.drewN q).drewN t from fun q => (tbl.r8in_at false l[k] 0 (m - 1) (w1.drewN q) (iff_of_false Bool.false_ne_true h3)).mono fun e w' ⟨h1, h2⟩ => ⟨h1, 0, h2.symm⟩)
        have H : Hid (b = false) := Lib.hid (by
          cases b
          · rfl
          · exact absurd ((HC.out.1 rfl).2.1 _ hmem) h3)
        clear h3 hs2 hs3 e1 hmem hp0 hcs
        generalize l[k] = x at g HIN
        clear hkl hA
        go_wp2_with fail
        go_quiet ((go_at_call 39; with_reducible refine Calls.quiet_of (HIN.out _)))
        have hbq := below_dn hbr nq
        generalize w1.drewN nq = wq at *
        go_wp2_with fail
        go_ret
        exact ⟨ret_bool H.out.symm, hbq⟩
    · have j1 : ¬ (k : Int) < (n : Int) := by omega
      obtain rfl : k = n := by omega
      have hall : (∀ x ∈ l, 0 ≤ x ∧ x ≤ m - 1) ∧ Rising l := ⟨fun x hx => hs2 x (by rw [List.take_of_length_le (by rw [HL.out]; omega)]; exact hx), fun j x y hx hy => hs3 j x y (by
        have := (List.getElem?_eq_some_iff.1 hy).1
        rw [HL.out] at this
        exact this) hx hy⟩
      by_cases h0 : k = 0
      · have H : Hid (b = false) := Lib.hid (by
          cases b
          · rfl
          · exact absurd (List.eq_nil_of_length_eq_zero (by rw [HL.out]; exact h0)) (HC.out.1 rfl).1)
        subst h0
        clear hs2 hs3 hall
        go_wp2_with fail
        go_ret
        exact ⟨ret_bool H.out.symm, hbr⟩
      · have H : Hid (b = true) := Lib.hid (HC.out.2 ⟨fun h => h0 (by rw [← HL.out, h]; rfl), hall.1, hall.2⟩)
        have q : (0 : Int) < (k : Int) := by omega
        clear hs2 hs3 hall h0
        go_wp2_with fail
        go_ret
        exact ⟨ret_bool (by rw [H.out]; exact decide_eq_true (by omega)), hbr⟩
end Go.Proofs.Ythdahdopejapmaa.stp

namespace Go.Proofs.Ythdahdopejapmaa.stp
open Go.RowKit Go.Lib
open Go.Proofs.Ythdahdopejapmaa.tbl (Ent EntOk)
open Go.Proofs.Ythdahdopejapmaa.par (zx zeros zeros_length zx_length)
open Go.Proofs.Ythdahdopejapmaa.zon

/-- The entry of a block. -/
def entS (st : Int) (b : List UInt8) : Ent := ⟨st, (crc.sum b : Nat), false⟩
/-- A block and its entry, the first k of those that are written looked at. -/
def pick (ats : List Int) (bs : List (List UInt8)) (st : Int) (i : Nat) (b : List UInt8) (e : Ent) : Nat → List UInt8 × Ent
  | 0 => (b, e)
  | k + 1 => if ats[k]? = some (i : Int) then (hadK bs k, entS st (hadK bs k)) else pick ats bs st i b e k
def entK (es : List Ent) (i : Nat) : Ent := (es[i]?).getD ⟨0, 0, false⟩
def both (D : Nat) (es : List Ent) (hs : List (List UInt8)) (ats : List Int) (bs : List (List UInt8)) (st : Int) (i : Nat) : List UInt8 × Ent := pick ats bs st i (known (D + 1) es hs i) (entK es i) ats.length
/-- A block then; its entry then; the parity of the first of them; the table. -/
def newB (D : Nat) (es : List Ent) (hs : List (List UInt8)) (ats : List Int) (bs : List (List UInt8)) (st : Int) (i : Nat) : List UInt8 := (both D es hs ats bs st i).1
def newE (D : Nat) (es : List Ent) (hs : List (List UInt8)) (ats : List Int) (bs : List (List UInt8)) (st : Int) (i : Nat) : Ent := if newB D es hs ats bs st i = [] then { (both D es hs ats bs st i).2 with ls := true } else (both D es hs ats bs st i).2
def newP (D : Nat) (es : List Ent) (hs : List (List UInt8)) (ats : List Int) (bs : List (List UInt8)) (st : Int) : Nat → List UInt8
  | 0 => zeros 8
  | i + 1 => if newB D es hs ats bs st i = [] then newP D es hs ats bs st i else zx (newP D es hs ats bs st i) (newB D es hs ats bs st i)
def newT (D : Nat) (es : List Ent) (hs : List (List UInt8)) (ats : List Int) (bs : List (List UInt8)) (st : Int) : List Ent := (List.range D).map (newE D es hs ats bs st) ++ [entS st (newP D es hs ats bs st D)]
theorem newT_length (D : Nat) (es : List Ent) (hs : List (List UInt8)) (ats : List Int) (bs : List (List UInt8)) (st : Int) : (newT D es hs ats bs st).length = D + 1 := by simp [newT]
theorem entK_get {es : List Ent} {i : Nat} {e : Ent} (h : es[i]? = some e) : entK es i = e := by simp [entK, h]
theorem pick_none {ats : List Int} {bs : List (List UInt8)} {st : Int} {i : Nat} {b : List UInt8} {e : Ent} : ∀ {k : Nat}, (∀ j : Nat, j < k → ats[j]? ≠ some (i : Int)) → pick ats bs st i b e k = (b, e)
  | 0, _ => rfl
  | k + 1, h => by
    rw [pick, if_neg (h k (by omega))]
    exact pick_none fun j hj => h j (by omega)
theorem rising_lt {l : List Int} (h : Rising l) : ∀ {k j : Nat} {x y : Int}, j < k → l[j]? = some x → l[k]? = some y → x < y
  | 0, _, _, _, hj, _, _ => by omega
  | k + 1, j, x, y, hj, hx, hy => by
    by_cases e : j = k
    · rw [e] at hx
      exact h k x y hx hy
    · have hk : k < l.length := by have := (List.getElem?_eq_some_iff.1 hy).1; omega
      have h1 := rising_lt h (show j < k by omega) hx (List.getElem?_eq_getElem hk)
      have h2 := h k _ y (List.getElem?_eq_getElem hk) hy
      omega
theorem pick_at {ats : List Int} {bs : List (List UInt8)} {st : Int} {i : Nat} {b : List UInt8} {e : Ent} (hr : Rising ats) {j : Nat} (hj : ats[j]? = some (i : Int)) : ∀ {k : Nat}, j < k → pick ats bs st i b e k = (hadK bs j, entS st (hadK bs j))
  | 0, h => by omega
  | k + 1, h => by
    by_cases q : j = k
    · rw [pick, ← q, if_pos hj]
    · rw [pick, if_neg fun h2 => by have := rising_lt hr (show j < k by omega) hj h2; omega]
      exact pick_at hr hj (by omega)
/-- Written, or as it was. -/
theorem both_cases {D : Nat} {es : List Ent} {hs : List (List UInt8)} {ats : List Int} {bs : List (List UInt8)} {st : Int} (hr : Rising ats) (i : Nat) :
    (∃ j : Nat, ats[j]? = some (i : Int) ∧ both D es hs ats bs st i = (hadK bs j, entS st (hadK bs j))) ∨ (∀ j : Nat, ats[j]? ≠ some (i : Int)) ∧ both D es hs ats bs st i = (known (D + 1) es hs i, entK es i) := by
  by_cases h : ∃ j : Nat, ats[j]? = some (i : Int)
  · obtain ⟨j, hj⟩ := h
    exact .inl ⟨j, hj, pick_at hr hj (List.getElem?_eq_some_iff.1 hj).1⟩
  · have h2 : ∀ j : Nat, ats[j]? ≠ some (i : Int) := fun j hj => h ⟨j, hj⟩
    exact .inr ⟨h2, pick_none fun j _ => h2 j⟩
theorem hadK_eight {bs : List (List UInt8)} (hb : ∀ h ∈ bs, h.length = 8) {j : Nat} (hj : j < bs.length) : (hadK bs j).length = 8 := by
  rw [hadK_get (List.getElem?_eq_getElem hj)]
  exact hb _ (List.getElem_mem hj)
theorem newB_length {D : Nat} {es : List Ent} {hs : List (List UInt8)} {ats : List Int} {bs : List (List UInt8)} {st : Int} (hr : Rising ats) (hh : HadOk (D + 1) hs) (hl : bs.length = ats.length) (hb : ∀ h ∈ bs, h.length = 8) (i : Nat) : newB D es hs ats bs st i = [] ∨ (newB D es hs ats bs st i).length = 8 := by
  unfold newB
  rcases both_cases (D := D) (es := es) (hs := hs) (bs := bs) (st := st) hr i with ⟨j, hj, h⟩ | ⟨-, h⟩
  · rw [h]
    exact .inr (hadK_eight hb (by rw [hl]; exact (List.getElem?_eq_some_iff.1 hj).1))
  · rw [h]
    exact known_length hh i
theorem newP_length {D : Nat} {es : List Ent} {hs : List (List UInt8)} {ats : List Int} {bs : List (List UInt8)} {st : Int} (hr : Rising ats) (hh : HadOk (D + 1) hs) (hl : bs.length = ats.length) (hb : ∀ h ∈ bs, h.length = 8) : ∀ i, (newP D es hs ats bs st i).length = 8
  | 0 => zeros_length 8
  | i + 1 => by
    have h1 := newP_length (D := D) (es := es) (st := st) hr hh hl hb i
    rw [newP]
    by_cases h : newB D es hs ats bs st i = []
    · rw [if_pos h]; exact h1
    · rw [if_neg h]; exact zx_length h1 ((newB_length hr hh hl hb i).resolve_left h)
theorem entS_ok {st : Int} (hs : 0 ≤ st ∧ st ≤ 4294967295) (b : List UInt8) : EntOk (entS st b) := ⟨hs, Int.natCast_nonneg _, by have := crc.sum_lt b; show ((crc.sum b : Nat) : Int) ≤ 4294967295; omega⟩
/-- The new table is a right one. -/
theorem newT_good {D : Nat} {es : List Ent} {hs : List (List UInt8)} {ats : List Int} {bs : List (List UInt8)} {st : Int} (hg : tbl.Good (D : Int) es) (hr : Rising ats) (hst : 0 ≤ st ∧ st ≤ 4294967295) : tbl.Good (D : Int) (newT D es hs ats bs st) := by
  refine ⟨by rw [newT_length]; omega, fun e he => ?_, fun e he => ?_⟩
  · unfold newT at he
    rcases List.mem_append.1 he with k | k
    · obtain ⟨i, hi, rfl⟩ := List.mem_map.1 k
      have hi2 : i < es.length := by have := List.mem_range.1 hi; have := hg.1; omega
      have h2 : EntOk (both D es hs ats bs st i).2 := by
        rcases both_cases (D := D) (es := es) (hs := hs) (bs := bs) (st := st) hr i with ⟨j, hj, h⟩ | ⟨-, h⟩
        · rw [h]; exact entS_ok hst _
        · rw [h, entK_get (List.getElem?_eq_getElem hi2)]
          exact hg.2.1 _ (List.getElem_mem hi2)
      unfold newE
      split
      · exact h2
      · exact h2
    · rw [List.mem_singleton] at k
      rw [k]
      exact entS_ok hst _
  · unfold newT at he
    rw [Int.toNat_natCast, List.getElem?_append_right (by simp)] at he
    simp at he
    rw [← he]
    rfl
end Go.Proofs.Ythdahdopejapmaa.stp

namespace Go.Proofs.Ythdahdopejapmaa.stp
open Go.RowKit Go.Lib
open Go.Proofs.Ythdahdopejapmaa.tbl (Ent EntOk OwnE)
open Go.Proofs.Ythdahdopejapmaa.par (zx zeros zeros_length zx_length)
open Go.Proofs.Ythdahdopejapmaa.zon

/-- The table when the first k are written. -/
def parE (D : Nat) (es : List Ent) (hs : List (List UInt8)) (ats : List Int) (bs : List (List UInt8)) (st : Int) (k : Nat) : List Ent := (List.range k).map (newE D es hs ats bs st) ++ es.drop k
/-- One of them, as far as j of the indices were looked at. -/
def pickK (D : Nat) (es : List Ent) (hs : List (List UInt8)) (ats : List Int) (bs : List (List UInt8)) (st : Int) (i : Nat) (j : Nat) : List UInt8 × Ent := pick ats bs st i (known (D + 1) es hs i) (entK es i) j
section
variable {D : Nat} {es : List Ent} {hs : List (List UInt8)} {ats : List Int} {bs : List (List UInt8)} {st : Int}
theorem parE_length {k : Nat} (hk : k ≤ es.length) : (parE D es hs ats bs st k).length = es.length := by
  unfold parE
  rw [List.length_append, List.length_map, List.length_range, List.length_drop]
  omega
theorem parE_zero : parE D es hs ats bs st 0 = es := by simp [parE]
theorem parE_get {k : Nat} (hk : k < es.length) : (parE D es hs ats bs st k)[k]? = some (entK es k) := by
  unfold parE
  rw [List.getElem?_append_right (by simp), entK, List.getElem?_drop]
  simp [List.getElem?_eq_getElem hk]
theorem parE_next {k : Nat} (hk : k < es.length) : (parE D es hs ats bs st k).set k (newE D es hs ats bs st k) = parE D es hs ats bs st (k + 1) := by
  unfold parE
  have h1 : ((List.range k).map (newE D es hs ats bs st)).length = k := by simp
  rw [List.set_append_right _ _ (by rw [h1]; exact Nat.le_refl _), h1, Nat.sub_self, range_next, List.append_assoc]
  congr 1
  rw [List.drop_eq_getElem_cons hk]
  rfl
theorem parE_last (hl : es.length = D + 1) : (parE D es hs ats bs st D).set D (entS st (newP D es hs ats bs st D)) = newT D es hs ats bs st := by
  unfold parE newT
  have h1 : ((List.range D).map (newE D es hs ats bs st)).length = D := by simp
  rw [List.set_append_right _ _ (by rw [h1]; exact Nat.le_refl _), h1, Nat.sub_self]
  congr 1
  rw [List.drop_eq_getElem_cons (by omega), List.drop_eq_nil_of_le (by omega)]
  rfl
theorem set_self {α : Type} {l : List α} {k : Nat} {x : α} (h : l[k]? = some x) : l.set k x = l := by
  obtain ⟨hk, rfl⟩ := List.getElem?_eq_some_iff.1 h
  exact List.set_getElem_self hk
theorem inn_zero {i : Nat} (hi : i < es.length) : (parE D es hs ats bs st i).set i (pickK D es hs ats bs st i 0).2 = parE D es hs ats bs st i := set_self (parE_get hi)
theorem pickK_hit {i j : Nat} (h : ats[j]? = some (i : Int)) : pickK D es hs ats bs st i (j + 1) = (hadK bs j, entS st (hadK bs j)) := by
  unfold pickK
  rw [pick, if_pos h]
theorem pickK_miss {i j : Nat} (h : ats[j]? ≠ some (i : Int)) : pickK D es hs ats bs st i (j + 1) = pickK D es hs ats bs st i j := by
  unfold pickK
  rw [pick, if_neg h]
theorem pickK_all {i : Nat} : pickK D es hs ats bs st i ats.length = both D es hs ats bs st i := rfl
theorem newB_pick {i : Nat} : newB D es hs ats bs st i = (pickK D es hs ats bs st i ats.length).1 := rfl
theorem newE_none {i : Nat} (h : newB D es hs ats bs st i = []) : newE D es hs ats bs st i = { (pickK D es hs ats bs st i ats.length).2 with ls := true } := if_pos h
theorem newE_some {i : Nat} (h : newB D es hs ats bs st i ≠ []) : newE D es hs ats bs st i = (pickK D es hs ats bs st i ats.length).2 := if_neg h
theorem newP_none {i : Nat} (h : newB D es hs ats bs st i = []) : newP D es hs ats bs st (i + 1) = newP D es hs ats bs st i := if_pos h
theorem newP_some {i : Nat} (h : newB D es hs ats bs st i ≠ []) : newP D es hs ats bs st (i + 1) = zx (newP D es hs ats bs st i) (newB D es hs ats bs st i) := if_neg h
end
/-- Entries of one's own: one written over, or its mark alone. -/
theorem set3 {w : World} {base q c N j : Nat} {es : List Ent} {e' : Ent} (hN : es.length = N) (hj : j < N) (h : OwnE w base (.slice (some ⟨q, 0, none⟩) N c) es) :
    OwnE (((w.setCell ⟨q, j * 3, none⟩ (.int .i64 e'.st)).setCell ⟨q, j * 3 + 1, none⟩ (.int .i64 e'.sm)).setCell ⟨q, j * 3 + 2, none⟩ (.bool e'.ls)) base (.slice (some ⟨q, 0, none⟩) N c) (es.set j e') := by
  subst hN
  have e0 := List.getElem?_eq_getElem hj
  have h1 := tbl.TV.Own.store (t := ⟨some ⟨q, 0, none⟩, c, es⟩) (j := j) (i := 0) (e := es[j]) (e' := { es[j] with st := e'.st }) (v := .int .i64 e'.st) h rfl e0 (by decide) rfl
  have h2 := tbl.TV.Own.store (j := j) (i := 1) (e := { es[j] with st := e'.st }) (e' := { es[j] with st := e'.st, sm := e'.sm }) (v := .int .i64 e'.sm) h1 rfl (List.getElem?_set_self hj) (by decide) rfl
  have h3 := tbl.TV.Own.store (j := j) (i := 2) (e := { es[j] with st := e'.st, sm := e'.sm }) (e' := e') (v := .bool e'.ls) h2 rfl (List.getElem?_set_self (by rw [List.length_set]; exact hj)) (by decide) rfl
  unfold tbl.TV.Own at h3
  simp only [List.length_set, List.set_set] at h3
  exact h3
theorem set1 {w : World} {base q c N j : Nat} {es : List Ent} {e0 : Ent} (hN : es.length = N) (he : es[j]? = some e0) (h : OwnE w base (.slice (some ⟨q, 0, none⟩) N c) es) :
    OwnE (w.setCell ⟨q, j * 3 + 2, none⟩ (.bool true)) base (.slice (some ⟨q, 0, none⟩) N c) (es.set j { e0 with ls := true }) := by
  subst hN
  have h1 := tbl.TV.Own.store (t := ⟨some ⟨q, 0, none⟩, c, es⟩) (j := j) (i := 2) (e := e0) (e' := { e0 with ls := true }) (v := .bool true) h rfl he (by decide) rfl
  unfold tbl.TV.Own at h1
  simp only [List.length_set] at h1
  exact h1
theorem ent_frozen {w : World} {base q c N : Nat} {es : List Ent} (h : OwnE w base (.slice (some ⟨q, 0, none⟩) N c) es) (j : Nat) : w.frozen? ⟨q, j, none⟩ = false := by
  have h1 : w.ownsRow base 61 3 (.slice (some ⟨q, 0, none⟩) N c) es.length (tbl.evs es) := h
  have hN : N = es.length := by
    obtain ⟨A, c', hv, -⟩ := anc.row_form h1
    simp only [Value.slice.injEq] at hv
    exact hv.2.1
  subst hN
  exact World.ownsRow.frozenAt h1 j
theorem ent_cell {w : World} {base q c N j : Nat} {es : List Ent} (hN : es.length = N) (hj : j < N) (h : OwnE w base (.slice (some ⟨q, 0, none⟩) N c) es) : ∃ e, es[j]? = some e ∧ w.cell? ⟨q, j * 3, none⟩ = some (.int .i64 e.st) ∧ w.cell? ⟨q, j * 3 + 1, none⟩ = some (.int .i64 e.sm) ∧ w.cell? ⟨q, j * 3 + 2, none⟩ = some (.bool e.ls) := by
  subst hN
  have hi : tbl.TV.In w w.heap.size ⟨some ⟨q, 0, none⟩, c, es⟩ := tbl.TV.Own.inn (t := ⟨some ⟨q, 0, none⟩, c, es⟩) h
  obtain ⟨b1, off, e, hA, -, c0, c1, c2, -, e1⟩ := tbl.ent_at hi.h hj
  simp only [Option.some.injEq, Addr.mk.injEq, and_true] at hA
  obtain ⟨rfl, rfl⟩ := hA
  rw [Nat.zero_add] at c0 c1 c2
  exact ⟨e, e1, c0, c1, c2⟩
/-- Bytes that lie, and not in block q. -/
structure ByB (w : World) (q : Nat) (X : Option Addr) (L : List UInt8) : Prop where
  h : Sl w w.heap.size X L
  f : ∀ a, X = some a → 0 < L.length → a.block ≠ q
theorem ByB.next {w w' : World} {q : Nat} {X : Option Addr} {L : List UInt8} (h : ByB w q X L) (hb : Below w.heap.size w w') : ByB w' q X L := ⟨h.h.next hb, h.f⟩
theorem ByB.set {w : World} {q o : Nat} {X : Option Addr} {L : List UInt8} (h : ByB w q X L) (v : Value) : ByB (w.setCell ⟨q, o, none⟩ v) q X L := by
  refine ⟨fun hl => ?_, h.f⟩
  obtain ⟨b, off, rfl, hb, hc⟩ := h.h hl
  have hne : b ≠ q := h.f _ rfl hl
  refine ⟨b, off, rfl, by rw [World.size_setCell]; exact hb, fun j hj => ?_⟩
  rw [World.cell?_setCell_other _ _ _ _ (by simp only [ne_eq, Addr.mk.injEq, not_and]; intro k; exact absurd k.symm hne)]
  exact hc j hj
theorem byB_own {w : World} {base q n c : Nat} {e : TypeId} {X : Option Addr} {L : List UInt8} (h : Own w base e (.slice X n c) L) (hq : q < base) : ByB w q X L := by
  obtain ⟨A, c', hv, h1, h2, hs, hf⟩ := h.form
  simp only [Value.slice.injEq] at hv
  obtain ⟨rfl, rfl, rfl⟩ := hv
  exact ⟨hs, fun a ha _ => by have := hf a ha; omega⟩
theorem byB_arg {w : World} {B q : Nat} {X : Option Addr} {L : List UInt8} (h : Sl w B X L) (hB : B ≤ w.heap.size) (hq : B ≤ q) : ByB w q X L := by
  refine ⟨h.more hB, fun a ha hl => ?_⟩
  obtain ⟨b, off, hX, hb, -⟩ := h hl
  rw [ha] at hX
  obtain rfl := Option.some.inj hX
  show b ≠ q
  omega
theorem own_ent {w : World} {base base' q N c o : Nat} {v : Value} {l : List UInt8} {es : List Ent} (h : Own w base 5 v l) (k : OwnE w base' (.slice (some ⟨q, 0, none⟩) N c) es) (x : Value) : Own (w.setCell ⟨q, o, none⟩ x) base 5 v l :=
  ownsRow_setCell_other h (fun (e : v.ownBlock = some q) => (rows_apart h k u8_ent).elim (fun g => by rw [g] at e; cases e) fun g => g e) x
theorem own_ne {w : World} {base base' q N c : Nat} {v : Value} {l : List UInt8} {es : List Ent} (h : Own w base 5 v l) (k : OwnE w base' (.slice (some ⟨q, 0, none⟩) N c) es) : v.ownBlock ≠ some q :=
  fun (e : v.ownBlock = some q) => (rows_apart h k u8_ent).elim (fun g => by rw [g] at e; cases e) fun g => g e
theorem own_ent3 {w : World} {base q o1 o2 o3 : Nat} {v : Value} {l : List UInt8} (h : Own w base 5 v l) (hne : v.ownBlock ≠ some q) (x y z : Value) : Own (((w.setCell ⟨q, o1, none⟩ x).setCell ⟨q, o2, none⟩ y).setCell ⟨q, o3, none⟩ z) base 5 v l :=
  ownsRow_setCell_other (ownsRow_setCell_other (ownsRow_setCell_other h hne x) hne y) hne z
theorem below_set3 {w w' : World} {B q o1 o2 o3 : Nat} (h : Below B w w') (hq : B ≤ q) (x y z : Value) : Below B w (((w'.setCell ⟨q, o1, none⟩ x).setCell ⟨q, o2, none⟩ y).setCell ⟨q, o3, none⟩ z) :=
  ((h.setCell (p := ⟨q, o1, none⟩) hq x).setCell (p := ⟨q, o2, none⟩) hq y).setCell (p := ⟨q, o3, none⟩) hq z
theorem size_set3 {w : World} {q o1 o2 o3 : Nat} (x y z : Value) : (((w.setCell ⟨q, o1, none⟩ x).setCell ⟨q, o2, none⟩ y).setCell ⟨q, o3, none⟩ z).heap.size = w.heap.size := by simp
end Go.Proofs.Ythdahdopejapmaa.stp

namespace Go.Proofs.Ythdahdopejapmaa.stp
open Go.RowKit Go.Lib
open Go.Proofs.Ythdahdopejapmaa.tbl (Ent EntOk)
open Go.Proofs.Ythdahdopejapmaa.par (zx zeros zeros_length zx_length)
open Go.Proofs.Ythdahdopejapmaa.zon

/-- Is one written, and its bytes, when the first j of the indices were looked at. -/
def look (ats : List Int) (bs : List (List UInt8)) (i : Nat) (a : Bool) (b : List UInt8) : Nat → Bool × List UInt8
  | 0 => (a, b)
  | j + 1 => if ats[j]? = some (i : Int) then (true, hadK bs j) else look ats bs i a b j
section
variable {ats : List Int} {bs : List (List UInt8)} {i : Nat} {a : Bool} {b : List UInt8}
theorem look_hit {j : Nat} (h : ats[j]? = some (i : Int)) : look ats bs i a b (j + 1) = (true, hadK bs j) := by rw [look, if_pos h]
theorem look_miss {j : Nat} (h : ats[j]? ≠ some (i : Int)) : look ats bs i a b (j + 1) = look ats bs i a b j := by rw [look, if_neg h]
theorem look_none : ∀ {j : Nat}, (∀ k, k < j → ats[k]? ≠ some (i : Int)) → look ats bs i a b j = (a, b)
  | 0, _ => rfl
  | j + 1, h => by rw [look_miss (h j (by omega))]; exact look_none fun k hk => h k (by omega)
theorem look_at (hr : Rising ats) {k : Nat} (hk : ats[k]? = some (i : Int)) : ∀ {j : Nat}, k < j → look ats bs i a b j = (true, hadK bs k)
  | 0, h => by omega
  | j + 1, h => by
    by_cases q : k = j
    · rw [← q]; exact look_hit hk
    · rw [look_miss fun h2 => by have := rising_lt hr (show k < j by omega) hk h2; omega]
      exact look_at hr hk (by omega)
theorem look_length (hb : b.length = 8) (h8 : ∀ y ∈ bs, y.length = 8) (hl : bs.length = ats.length) : ∀ j, (look ats bs i a b j).2.length = 8
  | 0 => hb
  | j + 1 => by
    rw [look]
    split
    · rename_i h
      exact hadK_eight h8 (by rw [hl]; exact (List.getElem?_eq_some_iff.1 h).1)
    · exact look_length hb h8 hl j
end
section
variable {D : Nat} {es : List Ent} {hs : List (List UInt8)} {ats : List Int} {bs : List (List UInt8)} {st : Int}
theorem newT_get {i : Nat} (h : i < D) : (newT D es hs ats bs st)[i]? = some (newE D es hs ats bs st i) := by
  unfold newT
  rw [List.getElem?_append_left (by simpa using h)]
  simp [h]
theorem newT_last : (newT D es hs ats bs st)[D]? = some (entS st (newP D es hs ats bs st D)) := by
  unfold newT
  rw [List.getElem?_append_right (by simp)]
  simp
theorem newE_at (hr : Rising ats) (hl : bs.length = ats.length) (hb : ∀ y ∈ bs, y.length = 8) {i j : Nat} (hj : ats[j]? = some (i : Int)) : newB D es hs ats bs st i = hadK bs j ∧ newE D es hs ats bs st i = entS st (hadK bs j) := by
  have hjl := (List.getElem?_eq_some_iff.1 hj).1
  have h1 : both D es hs ats bs st i = (hadK bs j, entS st (hadK bs j)) := pick_at hr hj hjl
  have h8 := hadK_eight hb (show j < bs.length by omega)
  have hB : newB D es hs ats bs st i = hadK bs j := by unfold newB; rw [h1]
  refine ⟨hB, ?_⟩
  unfold newE
  rw [if_neg (by rw [hB]; intro h; rw [h] at h8; cases h8), h1]
theorem newE_un {i : Nat} (h : ∀ j : Nat, ats[j]? ≠ some (i : Int)) : newB D es hs ats bs st i = known (D + 1) es hs i ∧ newE D es hs ats bs st i = if known (D + 1) es hs i = [] then { entK es i with ls := true } else entK es i := by
  have h1 : both D es hs ats bs st i = (known (D + 1) es hs i, entK es i) := pick_none fun j _ => h j
  have hB : newB D es hs ats bs st i = known (D + 1) es hs i := by unfold newB; rw [h1]
  exact ⟨hB, by unfold newE; rw [hB, h1]⟩
/-- Each entry of the new table: as it is written, or as it was. -/
theorem stay_at (hat : AtsOk (D : Int) ats) (hl : bs.length = ats.length) (hb : ∀ y ∈ bs, y.length = 8) (he : es.length = D + 1) {i : Nat} (hi : i ≤ D) :
    ∃ e1, (newT D es hs ats bs st)[i]? = some e1 ∧
      ((look ats bs i (decide (i = D)) (newP D es hs ats bs st D) ats.length).1 = true → e1 = entS st (look ats bs i (decide (i = D)) (newP D es hs ats bs st D) ats.length).2) ∧
      ((look ats bs i (decide (i = D)) (newP D es hs ats bs st D) ats.length).1 = false → ∃ e0, es[i]? = some e0 ∧ e1.st = e0.st ∧ e1.sm = e0.sm ∧ (e0.ls = true → e1.ls = true)) := by
  by_cases hiD : i = D
  · subst hiD
    have hn : ∀ j : Nat, ats[j]? ≠ some (i : Int) := fun j hj => by
      have := (hat.2.1 _ (List.mem_of_getElem? hj)).2
      omega
    rw [look_none fun j _ => hn j]
    refine ⟨_, newT_last, fun _ => rfl, fun h => ?_⟩
    rw [decide_eq_true rfl] at h
    cases h
  · have hlt : i < D := by omega
    refine ⟨_, newT_get hlt, ?_⟩
    rw [decide_eq_false hiD]
    by_cases h : ∃ j : Nat, ats[j]? = some (i : Int)
    · obtain ⟨j, hj⟩ := h
      rw [look_at hat.2.2 hj (List.getElem?_eq_some_iff.1 hj).1, (newE_at hat.2.2 hl hb hj).2]
      exact ⟨fun _ => rfl, fun h => by cases h⟩
    · have h2 : ∀ j : Nat, ats[j]? ≠ some (i : Int) := fun j hj => h ⟨j, hj⟩
      rw [look_none fun j _ => h2 j, (newE_un h2).2]
      refine ⟨fun h => (by cases h), fun _ => ?_⟩
      have hil : i < es.length := by omega
      refine ⟨_, List.getElem?_eq_getElem hil, ?_⟩
      rw [entK_get (List.getElem?_eq_getElem hil)]
      split
      · exact ⟨rfl, rfl, fun _ => rfl⟩
      · exact ⟨rfl, rfl, fun h => h⟩
end
end Go.Proofs.Ythdahdopejapmaa.stp

namespace Go.Proofs.Ythdahdopejapmaa.stp
open Go.RowKit Go.Lib
open Go.Proofs.Ythdahdopejapmaa.anc (bl kal kst ks bm ka step_row row_form)
open Go.Proofs.Ythdahdopejapmaa.tbl (Ent EntOk C1 c1_new OwnE)
open Go.Proofs.Ythdahdopejapmaa.zon
open Go.Proofs.Ythdahdopejapmaa.img

/-- The images of a zone. -/
def imgL (z : Int) (es : List Ent) (p : List UInt8) (ats : List Int) (bs : List (List UInt8)) : List (Int × Int × List UInt8) := (List.range ats.length).map (fun i => (z, (ats[i]?).getD 0, hadK bs i)) ++ [(z, -1, p), (z, 255, tbl.encT es)]
def imgF (z : Int) (ats : List Int) (bs : List (List UInt8)) (k : Nat) : List (Int × Int × List UInt8) := (List.range k).map fun i => (z, (ats[i]?).getD 0, hadK bs i)
theorem imgF_next {z : Int} {ats : List Int} {bs : List (List UInt8)} {k : Nat} {x : Int} {l : List UInt8} (h : ats[k]? = some x) (h2 : hadK bs k = l) : imgF z ats bs (k + 1) = imgF z ats bs k ++ [(z, x, l)] := by
  unfold imgF
  rw [range_next, h, h2]
  rfl
theorem imgF_length (z : Int) (ats : List Int) (bs : List (List UInt8)) (k : Nat) : (imgF z ats bs k).length = k := by simp [imgF]
theorem imgL_get {z : Int} {es : List Ent} {p : List UInt8} {ats : List Int} {bs : List (List UInt8)} {k : Nat} {x : Int} (h : ats[k]? = some x) : (imgL z es p ats bs)[k]? = some (z, x, hadK bs k) := by
  have hk := (List.getElem?_eq_some_iff.1 h).1
  unfold imgL
  rw [List.getElem?_append_left (by simpa using hk), List.getElem?_map, List.getElem?_range hk]
  show some (z, (ats[k]?).getD 0, hadK bs k) = _
  rw [h]
  rfl
theorem imgL_par {z : Int} {es : List Ent} {p : List UInt8} {ats : List Int} {bs : List (List UInt8)} {k : Nat} (h : ats.length = k) : (imgL z es p ats bs)[k]? = some (z, -1, p) := by
  subst h
  unfold imgL
  rw [List.getElem?_append_right (by simp)]
  simp
theorem imgL_tab {z : Int} {es : List Ent} {p : List UInt8} {ats : List Int} {bs : List (List UInt8)} {k : Nat} (h : ats.length = k) : (imgL z es p ats bs)[k + 1]? = some (z, 255, tbl.encT es) := by
  subst h
  unfold imgL
  rw [List.getElem?_append_right (by simp)]
  simp
set_option maxRecDepth 100000 in
set_option maxHeartbeats 8000000 in
theorem rimages_c (z : Int) (x : tbl.TV) (N : Nat) (pA : Option Addr) (pn pc : Nat) (p : List UInt8) (aA : Option Addr) (ac : Nat) (ats : List Int) (m : Nat) (bA : Option Addr) (bc : Nat) (br : List Row) (w : World) (hN : x.es.length = N) (hN20 : N ≤ 20) (hx : x.In w w.heap.size) (hok : ∀ e ∈ x.es, EntOk e) (hpn : p.length = pn) (hp1 : pn ≤ 1048576) (hp : Sl w w.heap.size pA p) (hm : ats.length = m) (ha : SlV w w.heap.size aA (ints ats)) (hm1 : m ≤ 1048576) (hbl : br.length = m) (hbb : LV.In w w.heap.size ⟨bA, bc, br⟩) (hb8 : ∀ y ∈ lists br, y.length = 8) :
    Calls Try.prog 21 #[.int .i64 z, .agg #[.slice x.A N x.c], .slice pA pn pc, .slice aA m ac, .slice bA m bc] w fun e w' => (∃ (v : Value) (rs : List ImR), e = .returned v ∧ ids rs = imgL z x.es p ats (lists br) ∧ OwnI w' w.heap.size v rs) ∧ Below w.heap.size w w' := by
  have TB := c1_new w (.slice x.A N x.c) 26
  have hw := bl w (.cells #[.slice x.A N x.c] 26)
  have lT : w.heap.size < (w.alloc (.cells #[.slice x.A N x.c] 26)).heap.size := by simp
  have HX := Lib.hid (hx.next hw)
  have HP := Lib.hid (hp.next hw)
  have HA := Lib.hid (ha.next hw)
  have HB := Lib.hid (hbb.next hw)
  have HN := Lib.hid hN
  have HOK := Lib.hid hok
  have HPN := Lib.hid hpn
  have HM := Lib.hid hm
  have HBL := Lib.hid hbl
  have HB8 := Lib.hid hb8
  clear hN hx hok hpn hp hm ha hbl hbb hb8
  go_enter Try.func21, Try.ntmps21
  go_upto_region 1 with fail
  generalize (w.alloc (.cells #[.slice x.A N x.c] 26)) = w0 at *
  go_upto_region 3 with fail
  go_loopw [11, 12] (fun v i w' => ∃ (k : Nat) (qs : List ImR), k ≤ m ∧ i = .int .i64 k ∧ ids qs = imgF z ats (lists br) k ∧ OwnI w' w0.heap.size v qs ∧ Below w0.heap.size w0 w') (fun _ i _ => m - (RowKit.intOf i).toNat)
  case atStart => exact ⟨0, [], by omega, rfl, rfl, ownI_nil _ _, Below.refl _ _⟩
  case round =>
    obtain ⟨w5, rfl⟩ : ∃ x, x = wr := ⟨wr, rfl⟩
    obtain ⟨k, qs, hk, rfl, hqs, hown, hbr⟩ := hrel
    have lw := hbr.size
    have hlk : qs.length = k := by
      have := congrArg List.length hqs
      rw [ids_length, imgF_length] at this
      exact this
    by_cases hlt : k < m
    · have j1 : (k : Int) < (m : Int) := by omega
      obtain ⟨b1, off, rfl, hb1, hcs⟩ := (HA.out.below hbr) (by rw [ints_length, HM.out]; omega)
      have ga := hcs k (by rw [ints_length, HM.out]; omega)
      rw [ints_get] at ga
      have hei : ats[k]? = some (ats[k]'(by rw [HM.out]; exact hlt)) := List.getElem?_eq_getElem (by rw [HM.out]; exact hlt)
      generalize (ats[k]'(by rw [HM.out]; exact hlt)) = y at *
      clear hcs
      obtain ⟨b2, o2, r, hbA, hb2, gr, hrs, hrm, -, r1⟩ := row_at (HB.out.h.below hbr) (HB.out.r.below hbr) (show k < br.length by rw [HBL.out]; exact hlt)
      subst hbA
      have h8 := HB8.out r.l (List.mem_of_getElem? r1)
      have HL := Lib.hid (show ids qs ++ [(z, y, r.l)] = imgF z ats (lists br) (k + 1) by rw [imgF_next hei (hadK_get r1), hqs])
      have HT := Lib.hid (show ∀ W, Below w5.heap.size w5 W → Calls Try.prog 30 #[.slice r.A r.l.length r.c] W fun e w' => One W.heap.size r.l e w' ∧ Below W.heap.size W w' from fun W hW => twin_any r.A r.c _ r.l W ((hrs.more lw).next hW) (by omega))
      have HLK := Lib.hid hlk
      clear hei r1 hrs hrm hqs hlk h8
      go_upto_region 5 with fail
      have hfar : ∀ q, u11.ownBlock = some q → w0.heap.size ≤ q := fun q hq => (World.ownsRow.lt hown.1 q hq).1
      have HF := Lib.hid (show ∀ W, Below w0.heap.size w5 W → W.cell? ⟨b1, off + k, none⟩ = some (.int .i64 y) ∧ W.cell? ⟨b2, o2 + k, none⟩ = some (.slice r.A r.l.length r.c) ∧ Below w0.heap.size w5 W from fun W h => ⟨ks h hb1 ga, ks h hb2 gr, h⟩)
      go_region_held3 (fun W => W.cell? ⟨b1, off + k, none⟩ = some (.int .i64 y) ∧ W.cell? ⟨b2, o2 + k, none⟩ = some (.slice r.A r.l.length r.c) ∧ Below w0.heap.size w5 W)
        ((refine HF.out _ ?_; first
          | with_reducible exact b3
          | with_reducible exact ka tb lw _
          | with_reducible exact tb
          | with_reducible exact below_dr (Below.refl _ _)
          | fail))
        (first
          | (go_at_call 30; (with_reducible refine (HT.out _ (below_dr (Below.refl _ _))).mono ?_); rintro e wt ⟨⟨vt, rfl, ot⟩, hbt⟩; obtain ⟨At, ct, hvt, -, -, -, -⟩ := id ot.form; subst hvt; have tt : Below w5.heap.size w5 wt := bt (below_dr (Below.refl w5.heap.size w5)) hbt; have tb : Below w0.heap.size w5 wt := tt.mono lw)
          | (refine step_row _ (by rfl) _ _ _ _ (by rfl) w0.heap.size 3 40 67 (.agg #[.int .i64 0, .int .i64 0, .slice none 0 0]) Try.underlying36 im_info (by rfl) u11 qs.length (ivs qs) (by rfl) ((hown.below tt).below (bl wt (.cells #[.int .i64 z, .int .i64 y, .slice At r.l.length ct] 67))).1 _ 1 _ (by rfl) (src_img (P := Try.prog) (heap_alloc_new wt (.cells #[.int .i64 z, .int .i64 y, .slice At r.l.length ct] 67)) Try.underlying36 (by simp [Value.oneCell'])) (by rw [HLK.out]; unfold maxLen; omega) (by rw [HLK.out]; omega) (Nat.le_trans lw (kal tt _).size) ?_; intro v3 w3 h3 hg3; have b3 : Below w0.heap.size w5 w3 := (ka tb lw _).grown hg3 (Nat.le_trans lw (kal tt _).size) hfar)
          | fail)
      go_wp2_with fail
      have hgm : OwnI w3 w0.heap.size v3 (qs ++ [⟨z, y, At, ct, r.l⟩]) := ((hown.below tt).below (bl wt _)).more (r := ⟨z, y, At, ct, r.l⟩) hg3 ((ot.below (bl wt _)).less lw) h3
      go_roundw
      case rel => exact ⟨k + 1, qs ++ [⟨z, y, At, ct, r.l⟩], by omega, by go_num, by rw [ids_append]; exact HL.out, hgm, hbr.trans b3⟩
      case measure => simp [RowKit.intOf]; omega
    · have j1 : ¬ (k : Int) < (m : Int) := by omega
      obtain rfl : k = m := by omega
      have HTW := Lib.hid (show ∀ W, Below w5.heap.size w5 W → Calls Try.prog 30 #[.slice pA pn pc] W fun e w' => One W.heap.size p e w' ∧ Below W.heap.size W w' from fun W hW => by
        have h9 := twin_any pA pc _ p W ((HP.out.next hbr).next hW) (by rw [HPN.out]; exact hp1)
        rw [HPN.out] at h9
        exact h9)
      have HTB := Lib.hid (show ∀ W, Below w5.heap.size w5 W → Calls Try.prog 41 #[.agg #[.slice x.A N x.c]] W fun e w' => tbl.BytQ W.heap.size (N * 9) (tbl.encT x.es) e w' ∧ Below W.heap.size W w' from fun W hW => by
        have h9 := tbl.rbytes_tab x N (N * 9) W ((HX.out.next hbr).next hW) HN.out hN20 HOK.out rfl
        rw [tbl.TV.v, HN.out] at h9
        exact h9)
      have t5 := (TB.keep hbr lT).c0
      have HF := Lib.hid (show ∀ W, Below w0.heap.size w5 W → W.cell? ⟨w.heap.size, 0, none⟩ = some (.slice x.A N x.c) ∧ Below w0.heap.size w5 W from fun W h => ⟨ks h lT t5, h⟩)
      have HLK := Lib.hid hlk
      have HQS := Lib.hid hqs
      have HHX := Lib.hid (show imgL z x.es p ats (lists br) = imgF z ats (lists br) k ++ [(z, -1, p), (z, 255, tbl.encT x.es)] by unfold imgL imgF; rw [HM.out])
      have hfar : ∀ q, u11.ownBlock = some q → w0.heap.size ≤ q := fun q hq => (World.ownsRow.lt hown.1 q hq).1
      clear hqs hlk
      go_upto_region 6 with fail
      go_region_held3 (fun W => W.cell? ⟨w.heap.size, 0, none⟩ = some (.slice x.A N x.c) ∧ Below w0.heap.size w5 W)
        ((refine HF.out _ ?_; first
          | with_reducible exact b3
          | with_reducible exact (kal tt _).mono lw
          | with_reducible exact tt.mono lw
          | with_reducible exact below_dr (Below.refl _ _)
          | fail))
        (first
          | (go_at_call 30; (with_reducible refine (HTW.out _ (below_dr (Below.refl _ _))).mono ?_); rintro e wt ⟨⟨vt, rfl, ot⟩, hbt⟩; obtain ⟨At, ct, hvt, -, -, -, -⟩ := id ot.form; subst hvt; have tt : Below w5.heap.size w5 wt := bt (below_dr (Below.refl w5.heap.size w5)) hbt)
          | (go_at_call 41; have lot := tt.size; (with_reducible refine (HTB.out _ tt).mono ?_); rintro e wq ⟨⟨Aq, cq, rfl, hql, oq⟩, hbq⟩; replace ot := ot.below hbq; replace tt := bt tt hbq)
          | (refine step_row _ (by rfl) _ _ _ _ (by rfl) w0.heap.size 3 40 67 (.agg #[.int .i64 0, .int .i64 0, .slice none 0 0]) Try.underlying36 im_info (by rfl) u11 qs.length (ivs qs) (by rfl) ((hown.below tt).below (bl wq (.cells #[.int .i64 z, .int .i64 (-1), .slice At p.length ct, .int .i64 z, .int .i64 255, .slice Aq (N * 9) cq] 67))).1 _ 2 _ (by rfl) (src_img2 (P := Try.prog) (heap_alloc_new wq (.cells #[.int .i64 z, .int .i64 (-1), .slice At p.length ct, .int .i64 z, .int .i64 255, .slice Aq (N * 9) cq] 67)) Try.underlying36 (by simp [Value.oneCell'])) (by rw [HLK.out]; unfold maxLen; omega) (by rw [HLK.out]; omega) (Nat.le_trans lw (kal tt _).size) ?_; intro v3 w3 h3 hg3; have b3 : Below w0.heap.size w5 w3 := ((kal tt (.cells #[.int .i64 z, .int .i64 (-1), .slice At p.length ct, .int .i64 z, .int .i64 255, .slice Aq (N * 9) cq] 67)).mono lw).grown hg3 (Nat.le_trans lw (kal tt _).size) hfar)
          | fail)
      have hgm : OwnI w3 w0.heap.size v3 (qs ++ [⟨z, -1, At, ct, p⟩, ⟨z, 255, Aq, cq, tbl.encT x.es⟩]) := ((hown.below tt).below (bl wq (.cells #[.int .i64 z, .int .i64 (-1), .slice At p.length ct, .int .i64 z, .int .i64 255, .slice Aq (N * 9) cq] 67))).more2 (r := ⟨z, -1, At, ct, p⟩) (r2 := ⟨z, 255, Aq, cq, tbl.encT x.es⟩) hg3 ((ot.below (bl wq _)).less lw) (by
        show Own _ _ _ (.slice Aq (tbl.encT x.es).length cq) _
        rw [hql]
        exact (oq.below (bl wq _)).less (Nat.le_trans lw lot)) (by
        show World.ownsRow _ _ _ _ _ _ (_ ++ ([.int .i64 z, .int .i64 (-1), .slice At p.length ct] ++ [.int .i64 z, .int .i64 255, .slice Aq (tbl.encT x.es).length cq]))
        rw [hql]
        exact h3)
      have HGM := Lib.hid hgm
      have lw0 := hw.size
      clear hgm h3 hg3 ot oq hown
      go_wp2_with fail
      go_ret
      exact ⟨⟨v3, _, rfl, by rw [ids_append, HQS.out, HHX.out]; rfl, HGM.out.less lw0⟩, bt hw (hbr.trans b3)⟩
end Go.Proofs.Ythdahdopejapmaa.stp

namespace Go.Proofs.Ythdahdopejapmaa.stp
open Go.RowKit Go.Lib
open Go.Proofs.Ythdahdopejapmaa.gmt (Ok)
open Go.Proofs.Ythdahdopejapmaa.anc (bl kal kst ks bm ka)
open Go.Proofs.Ythdahdopejapmaa.tbl (Ent EntOk C1 c1_new G5 g5_new OwnE)
open Go.Proofs.Ythdahdopejapmaa.par (zx zeros zeros_length zx_length)
open Go.Proofs.Ythdahdopejapmaa.zon

/-- What is written, told: the table, the parity, of one's own. -/
def WrQ (base D : Nat) (es : List Ent) (p : List UInt8) (e : Ending) (w' : World) : Prop := ∃ (t : tbl.TV) (X : Option Addr) (c : Nat), e = .returned (.tuple #[.agg #[.slice t.A (D + 1 : Nat) t.c], .slice X 8 c]) ∧ t.es = es ∧ t.Own w' base ∧ Own w' base 5 (.slice X 8 c) p
/-- TwinTable, where the table has entries. -/
theorem twin_q (x : tbl.TV) (N : Nat) (w : World) (hx : x.In w w.heap.size) (hN : x.es.length = N) (h0 : 0 < N) (hN1 : N ≤ 1048576) :
    Calls Try.prog 9 #[.agg #[.slice x.A N x.c]] w fun e w' => (∃ q qc, e = .returned (.agg #[.slice (some ⟨q, 0, none⟩) N qc]) ∧ OwnE w' w.heap.size (.slice (some ⟨q, 0, none⟩) N qc) x.es ∧ w.heap.size ≤ q ∧ q < w'.heap.size) ∧ Below w.heap.size w w' := by
  have h := tbl.twin_table x N w hx hN hN1
  rw [tbl.TV.v, hN] at h
  refine h.mono ?_
  rintro e w' ⟨⟨t, rfl, hte, hto⟩, hb⟩
  obtain ⟨q, hq, h1, h2⟩ := hto.row (by rw [hte]; omega)
  refine ⟨⟨q, t.c, ?_, ?_, h2, h1⟩, hb⟩
  · rw [tbl.TV.v, hte, hN, hq]
  · have h3 : OwnE w' w.heap.size (.slice t.A t.es.length t.c) t.es := hto
    rw [hte, hN, hq] at h3
    exact h3
set_option maxRecDepth 100000 in
set_option maxHeartbeats 16000000 in
theorem rwritten_c (z s l a st : Int) (D : Nat) (x : tbl.TV) (N : Nat) (hA : Option Addr) (hq : Nat) (hr : List Row) (n : Nat) (aA : Option Addr) (ac : Nat) (ats : List Int) (m : Nat) (bA : Option Addr) (bc : Nat) (br : List Row) (w : World) (ho : Ok z D s l a) (hst : 0 ≤ st ∧ st ≤ 4294967295) (hN : x.es.length = N) (hx : x.In w w.heap.size) (hg : tbl.Good (D : Int) x.es) (hn : hr.length = n) (hh : LV.In w w.heap.size ⟨hA, hq, hr⟩) (hd : HadOk (D + 1) (lists hr)) (hm : ats.length = m) (ha : SlV w w.heap.size aA (ints ats)) (hm1 : m ≤ 1048576) (hri : Rising ats) (hbl : br.length = m) (hbb : LV.In w w.heap.size ⟨bA, bc, br⟩) (hb8 : ∀ y ∈ lists br, y.length = 8) :
    Calls Try.prog 23 #[.agg #[.int .i64 z, .int .i64 D, .int .i64 s, .int .i64 l, .int .i64 a], .agg #[.slice x.A N x.c], .slice hA n hq, .slice aA m ac, .slice bA m bc, .int .i64 st] w fun e w' => WrQ w.heap.size D (newT D x.es (lists hr) ats (lists br) st) (newP D x.es (lists hr) ats (lists br) st D) e w' ∧ Below w.heap.size w w' := by
  have hD : 1 ≤ D ∧ D ≤ 4 := by have := ho.2.1; omega
  have hND : N = D + 1 := by have := hg.1; rw [hN] at this; omega
  have hnD : n = D + 1 := by have := hd.1; rw [lists_length, hn] at this; exact this
  have s1 : (w.alloc (.cells #[.int .i64 z, .int .i64 D, .int .i64 s, .int .i64 l, .int .i64 a] 23)).heap.size = w.heap.size + 1 := by simp
  have s2 : ((w.alloc (.cells #[.int .i64 z, .int .i64 D, .int .i64 s, .int .i64 l, .int .i64 a] 23)).alloc (.cells #[.slice x.A N x.c] 26)).heap.size = w.heap.size + 2 := by simp
  have s3 : (((w.alloc (.cells #[.int .i64 z, .int .i64 D, .int .i64 s, .int .i64 l, .int .i64 a] 23)).alloc (.cells #[.slice x.A N x.c] 26)).alloc (.cells #[.slice none 0 0] 26)).heap.size = w.heap.size + 3 := by simp
  have x2 := bl (w.alloc (.cells #[.int .i64 z, .int .i64 D, .int .i64 s, .int .i64 l, .int .i64 a] 23)) (.cells #[.slice x.A N x.c] 26)
  have x3 := bl ((w.alloc (.cells #[.int .i64 z, .int .i64 D, .int .i64 s, .int .i64 l, .int .i64 a] 23)).alloc (.cells #[.slice x.A N x.c] 26)) (.cells #[.slice none 0 0] 26)
  have GG := ((g5_new w z D s l a).keep x2 (by omega)).keep x3 (by omega)
  have TT := (c1_new (w.alloc (.cells #[.int .i64 z, .int .i64 D, .int .i64 s, .int .i64 l, .int .i64 a] 23)) (.slice x.A N x.c) 26).keep x3 (by omega)
  have RR := c1_new ((w.alloc (.cells #[.int .i64 z, .int .i64 D, .int .i64 s, .int .i64 l, .int .i64 a] 23)).alloc (.cells #[.slice x.A N x.c] 26)) (.slice none 0 0) 26
  rw [s1] at TT
  rw [s2] at RR
  have hw := kal (kal (bl w (.cells #[.int .i64 z, .int .i64 D, .int .i64 s, .int .i64 l, .int .i64 a] 23)) (.cells #[.slice x.A N x.c] 26)) (.cells #[.slice none 0 0] 26)
  have HX := Lib.hid (hx.next hw)
  have HHI := Lib.hid (hh.next hw)
  have HAI := Lib.hid (ha.next hw)
  have HBI := Lib.hid (hbb.next hw)
  have HO := Lib.hid ho
  have HN := Lib.hid hN
  have HNL := Lib.hid hn
  have HD := Lib.hid hd
  have HM := Lib.hid hm
  have HRI := Lib.hid hri
  have HBL := Lib.hid hbl
  have HB8 := Lib.hid hb8
  have HND := Lib.hid hND
  have HnD := Lib.hid hnD
  clear hN hx hg hn hh hd hm ha hri hbl hbb hb8 ho s1 s2 x2 x3 hND hnD
  go_enter Try.func23, Try.ntmps23
  go_upto_region 1 with fail
  generalize (((w.alloc (.cells #[.int .i64 z, .int .i64 D, .int .i64 s, .int .i64 l, .int .i64 a] 23)).alloc (.cells #[.slice x.A N x.c] 26)).alloc (.cells #[.slice none 0 0] 26)) = w0 at *
  have HTW := Lib.hid (twin_q x N w0 HX.out HN.out (by have := HND.out; omega) (by have := HND.out; omega))
  have t0 := TT.c0
  go_upto_region 2 with (go_at_call 9; (with_reducible refine HTW.out.mono ?_); rintro e w1 ⟨⟨q, qc, rfl, hoe, hq1, hq2⟩, hb1⟩)
  clear t0 HTW
  have hbo := bl w1 (.cells #[.slice (some ⟨q, 0, none⟩) N qc] 26)
  have CP := c1_new w1 (.slice (some ⟨q, 0, none⟩) N qc) 26
  have hoe2 := OwnE.below hoe hbo
  have b02 := hb1.trans (hbo.mono hb1.size)
  have lp : w1.heap.size < (w1.alloc (.cells #[.slice (some ⟨q, 0, none⟩) N qc] 26)).heap.size := by simp
  clear hoe hbo hb1
  generalize hp : w1.heap.size = p at *
  clear hp
  generalize w1.alloc (.cells #[.slice (some ⟨q, 0, none⟩) N qc] 26) = w2 at *
  clear w1
  have HZ := Lib.hid (z8_own w2 w0.heap.size b02.size)
  have hz := bl w2 (.cells tbl.z8cells 5)
  have CP3 := CP.keep hz lp
  have b03 := b02.trans (hz.mono b02.size)
  have lp3 : p < (w2.alloc (.cells tbl.z8cells 5)).heap.size := Nat.lt_of_lt_of_le lp hz.size
  have HOE := Lib.hid (OwnE.below hoe2 hz)
  clear CP hoe2 b02 lp hz
  have hmk := tbl.z8_run
  go_upto_region 4 with fail
  clear hmk
  generalize w2.alloc (.cells tbl.z8cells 5) = w3 at *
  go_loopw [15, 16] (fun v i w' => ∃ k : Nat, k ≤ D ∧ i = .int .i64 k ∧ Own w' w0.heap.size 5 v (newP D x.es (lists hr) ats (lists br) st k) ∧ OwnE w' w0.heap.size (.slice (some ⟨q, 0, none⟩) N qc) (parE D x.es (lists hr) ats (lists br) st k) ∧ C1 w' p (.slice (some ⟨q, 0, none⟩) N qc) ∧ p < w'.heap.size ∧ Below w0.heap.size w0 w') (fun _ i _ => D - (RowKit.intOf i).toNat)
  case atStart => exact ⟨0, by omega, rfl, HZ.out, by rw [parE_zero]; exact HOE.out, CP3, lp3, b03⟩
  case round =>
    obtain ⟨w4, rfl⟩ : ∃ y, y = wr := ⟨wr, rfl⟩
    obtain ⟨k, hk, rfl, hop, hoe, cp, lp, hbr⟩ := hrel
    clear HZ HOE CP3 lp3 b03
    have GG4 := GG.keep hbr (show w.heap.size < w0.heap.size by omega)
    have TT4 := TT.keep hbr (show w.heap.size + 1 < w0.heap.size by omega)
    obtain ⟨g0, g1, g2, g3, g4⟩ := id GG4
    have t0 := TT4.c0
    have lw4 := hbr.size
    by_cases hlt : k < D
    · have j1 : (k : Int) < (D : Int) := by omega
      have HKN := Lib.hid (rknown_at z s l a D x N hA n hq hr k w4 HO.out HN.out HND.out (HX.out.next hbr) HNL.out HnD.out (HHI.out.next hbr).h (HHI.out.next hbr).r HD.out (by omega))
      have HOP := Lib.hid hop
      have HOE := Lib.hid hoe
      have HKL := Lib.hid (known_length (es := x.es) HD.out k)
      clear hop hoe
      go_upto_region 8 with (go_at_call 42; (with_reducible refine HKN.out.mono ?_); rintro e w5 ⟨⟨vb, rfl, hob⟩, hb5⟩)
      obtain ⟨B0, c0, hv0, -, -, -, -⟩ := id hob.form
      subst hv0
      have lq4 : q < w4.heap.size := Nat.lt_trans hq2 lp
      have HBY := Lib.hid (byB_own hob lq4)
      have HOP5 := Lib.hid (HOP.out.below hb5)
      have HOE5 := Lib.hid (show OwnE w5 w0.heap.size (.slice (some ⟨q, 0, none⟩) N qc) ((parE D x.es (lists hr) ats (lists br) st k).set k (pickK D x.es (lists hr) ats (lists br) st k 0).2) from by
        rw [inn_zero (by rw [HN.out, HND.out]; omega)]
        exact OwnE.below HOE.out hb5)
      have cp5 := cp.keep hb5 lp
      have hb05 := hbr.trans (hb5.mono lw4)
      have lp5 := Nat.lt_of_lt_of_le lp hb5.size
      have hpl : (parE D x.es (lists hr) ats (lists br) st k).length = N := by rw [parE_length (by rw [HN.out, HND.out]; omega), HN.out]
      clear hob HKN HOP HOE cp lp hb5 g0 g1 g2 g3 g4 t0 GG4 TT4
      go_loopw [17, 18] (fun b j w' => ∃ (i : Nat) (X : Option Addr) (c : Nat), i ≤ m ∧ j = .int .i64 i ∧ b = .slice X (pickK D x.es (lists hr) ats (lists br) st k i).1.length c ∧ ByB w' q X (pickK D x.es (lists hr) ats (lists br) st k i).1 ∧ OwnE w' w0.heap.size (.slice (some ⟨q, 0, none⟩) N qc) ((parE D x.es (lists hr) ats (lists br) st k).set k (pickK D x.es (lists hr) ats (lists br) st k i).2) ∧ C1 w' p (.slice (some ⟨q, 0, none⟩) N qc) ∧ p < w'.heap.size ∧ Own w' w0.heap.size 5 u15 (newP D x.es (lists hr) ats (lists br) st k) ∧ Below w0.heap.size w0 w') (fun _ j _ => m - (RowKit.intOf j).toNat)
      case atStart => exact ⟨0, B0, c0, by omega, rfl, rfl, HBY.out, HOE5.out, cp5, lp5, HOP5.out, hb05⟩
      case round =>
        obtain ⟨w6, rfl⟩ : ∃ y, y = wr := ⟨wr, rfl⟩
        obtain ⟨i, X, c, hi, rfl, rfl, hby, hoe, cp, lp, hop, hb6⟩ := hrel
        have HOE := Lib.hid hoe
        have HBYY := Lib.hid hby
        have HOP := Lib.hid hop
        have lw6 := hb6.size
        have lq6 : q < w6.heap.size := Nat.lt_trans hq2 lp
        have HIM := Lib.hid hi
        clear hoe hby hop HBY HOE5 HOP5 cp5 hb05 lp5
        by_cases hlt2 : i < m
        · have j2 : (i : Int) < (m : Int) := by omega
          obtain ⟨b1, off, rfl, hb1, hcs⟩ := (HAI.out.below hb6) (by rw [ints_length, HM.out]; omega)
          have ga := hcs i (by rw [ints_length, HM.out]; omega)
          rw [ints_get] at ga
          have hei : ats[i]? = some (ats[i]'(by rw [HM.out]; exact hlt2)) := List.getElem?_eq_getElem (by rw [HM.out]; exact hlt2)
          generalize (ats[i]'(by rw [HM.out]; exact hlt2)) = y at *
          clear hcs
          by_cases hyk : y = (k : Int)
          case neg =>
            have q1 : (y == (k : Int)) = false := beq_eq_false_iff_ne.2 hyk
            have HPM := Lib.hid (pickK_miss (D := D) (es := x.es) (hs := lists hr) (bs := lists br) (st := st) (show ats[i]? ≠ some (k : Int) from fun h => hyk (by rw [hei] at h; exact Option.some.inj h)))
            clear hyk hei
            go_wp2_with fail
            go_roundw
            case rel => exact ⟨i + 1, X, c, by omega, by go_num, by rw [HPM.out], by rw [HPM.out]; exact HBYY.out, by rw [HPM.out]; exact HOE.out, cp, lp, HOP.out, hb6⟩
            case measure => simp [RowKit.intOf]; omega
          case pos =>
            subst hyk
            have q1 : ((k : Int) == (k : Int)) = true := beq_self_eq_true _
            obtain ⟨b2, o2, r, hbA, hb2, gr, hrs, hrm, -, r1⟩ := row_at (HBI.out.h.below hb6) (HBI.out.r.below hb6) (show i < br.length by rw [HBL.out]; exact hlt2)
            subst hbA
            have HR8 := Lib.hid (HB8.out r.l (List.mem_of_getElem? r1))
            have HPH := Lib.hid (show pickK D x.es (lists hr) ats (lists br) st k (i + 1) = (r.l, entS st r.l) from by rw [pickK_hit hei, hadK_get r1])
            have HRS := Lib.hid hrs
            clear hei r1 hrs hrm
            have HEN := Lib.hid (show ∀ W, Below w6.heap.size w6 W → Calls Try.prog 43 #[.int .i64 st, .slice r.A r.l.length r.c] W fun e w' => e = .returned (.agg #[.int .i64 st, .int .i64 (entS st r.l).sm, .bool false]) ∧ Below W.heap.size W w' from fun W hW =>
              tbl.rentry_any st r.A r.l.length r.c r.l W rfl (by rw [HR8.out]; decide) (((HRS.out.more lw6).next hW)))
            have HSX := Lib.hid (show ∀ W, Below w6.heap.size w6 W → W.cell? ⟨p, 0, none⟩ = some (.slice (some ⟨q, 0, none⟩) N qc) from fun W h => kst h lp cp.c0)
            have i1 : (k : Int) < (N : Int) := by rw [HND.out]; omega
            go_upto_region 12 with fail
            refine wp_region_held_drew (S := fun W => W.cell? ⟨p, 0, none⟩ = some (.slice (some ⟨q, 0, none⟩) N qc)) (by kernel_rfl) cp.c0 (fun hS => ?_)
            (refine wpAnyH_take (i := 0) (v := ?_) rfl (by kernel_rfl) (by kernel_rfl) (by kernel_rfl) (fun _ _ _ h => h) (Or.inl ⟨by rfl, ?_⟩) (by assumption) ?_; rotate_left; (focus (intro w hSw; (try dsimp only at hSw); go_split_ands; go_simp <;> with_reducible rfl)); simp only [List.getElem_toArray, List.getElem_cons_zero, Act.put, List.setIfInBounds_toArray, List.set_cons_zero, List.set_cons_succ])
            (refine wpAnyH_take (i := 1) (v := ?_) rfl (by kernel_rfl) (by kernel_rfl) (by kernel_rfl) (fun _ _ _ h => h) (Or.inl ⟨by rfl, ?_⟩) (by assumption) ?_; rotate_left; (focus (intro w hSw; (try dsimp only at hSw); go_split_ands; go_simp <;> with_reducible rfl)); simp only [List.getElem_toArray, List.getElem_cons_zero, List.getElem_cons_succ, Act.put, List.setIfInBounds_toArray, List.set_cons_zero, List.set_cons_succ])
            (refine wpAnyH_take (i := 2) (v := ?_) rfl (by kernel_rfl) (by kernel_rfl) (by kernel_rfl) (fun _ _ _ h => h) (Or.inl ⟨by rfl, ?_⟩) (by assumption) ?_; rotate_left; (focus (intro w hSw; (try dsimp only at hSw); go_split_ands; go_simp <;> with_reducible rfl)); simp only [List.getElem_toArray, List.getElem_cons_zero, List.getElem_cons_succ, Act.put, List.setIfInBounds_toArray, List.set_cons_zero, List.set_cons_succ])
            (refine wpAnyH_take (i := 3) (v := ?_) rfl (by kernel_rfl) (by kernel_rfl) (by kernel_rfl) (fun _ _ _ h => h) (Or.inl ⟨by rfl, ?_⟩) (by assumption) ?_; rotate_left; (focus (intro w hSw; (try dsimp only at hSw); go_split_ands; go_simp <;> with_reducible rfl)); simp only [List.getElem_toArray, List.getElem_cons_zero, List.getElem_cons_succ, Act.put, List.setIfInBounds_toArray, List.set_cons_zero, List.set_cons_succ])
            (refine wpAnyH_take (i := 4) (v := ?_) rfl (by kernel_rfl) (by kernel_rfl) (by kernel_rfl) (fun _ _ _ h => h) (Or.inl ⟨by rfl, ?_⟩) (by assumption) ?_; rotate_left; (focus (intro w hSw; (try dsimp only at hSw); go_split_ands; go_simp <;> with_reducible rfl)); simp only [List.getElem_toArray, List.getElem_cons_zero, List.getElem_cons_succ, Act.put, List.setIfInBounds_toArray, List.set_cons_zero, List.set_cons_succ])
            refine wpAnyH_ready (rs := [5]) (by kernel_rfl) (by simp) ?_
            refine AllReadyH.cons rfl (fun K hK => ?_) AllReadyH.nil
            go_simp
            (with_reducible refine (HEN.out _ (below_dr (Below.refl _ _))).mono ?_)
            rintro e w7 ⟨rfl, hbq⟩
            have hb7 : Below w6.heap.size w6 w7 := bt (below_dr (Below.refl w6.heap.size w6)) hbq
            refine hK.out _ _ (HSX.out _ hb7) (fun hS => ?_)
            clear hK K hbq
            try simp only [List.getElem_toArray, List.getElem_cons_zero, List.getElem_cons_succ, Act.put, List.setIfInBounds_toArray, List.set_cons_zero, List.set_cons_succ]
            (refine wpAnyH_take (i := 6) (v := ?_) rfl (by kernel_rfl) (by kernel_rfl) (by kernel_rfl) (fun _ _ _ h => h) (Or.inl ⟨by rfl, ?_⟩) (by assumption) ?_; rotate_left; (focus (intro w hSw; (try dsimp only at hSw); go_split_ands; go_simp <;> with_reducible rfl)); simp only [List.getElem_toArray, List.getElem_cons_zero, List.getElem_cons_succ, Act.put, List.setIfInBounds_toArray, List.set_cons_zero, List.set_cons_succ])
            have hoe7 := OwnE.below HOE.out hb7
            have hpl2 : ((parE D x.es (lists hr) ats (lists br) st k).set k (pickK D x.es (lists hr) ats (lists br) st k i).2).length = N := by rw [List.length_set, hpl]
            obtain ⟨e9, -, c0, c1, c2⟩ := ent_cell hpl2 (show k < N by rw [HND.out]; omega) hoe7
            have f0 := ent_frozen hoe7 (k * 3)
            have f1 := ent_frozen hoe7 (k * 3 + 1)
            have f2 := ent_frozen hoe7 (k * 3 + 2)
            refine wpAnyH_ready (rs := [7]) (by kernel_rfl) (by simp) ?_
            refine AllReadyH.cons rfl (fun K hK => ?_) AllReadyH.nil
            have cp7 := cp.keep hb7 lp
            have hpq : p ≠ q := Nat.ne_of_gt hq2
            have cp8 := ((cp7.apart hpq (o := k * 3) (.int .i64 st)).apart hpq (o := k * 3 + 1) (.int .i64 (entS st r.l).sm)).apart hpq (o := k * 3 + 2) (.bool false)
            have HB8' := Lib.hid (below_set3 (o1 := k * 3) (o2 := k * 3 + 1) (o3 := k * 3 + 2) (hb7.mono lw6) hq1 (.int .i64 st) (.int .i64 (entS st r.l).sm) (.bool false))
            have HE8 := Lib.hid (set3 (e' := entS st r.l) hpl2 (show k < N by rw [HND.out]; omega) hoe7)
            have hop7 := HOP.out.below hb7
            have HP8 := Lib.hid (own_ent3 (o1 := k * 3) (o2 := k * 3 + 1) (o3 := k * 3 + 2) hop7 (own_ne hop7 hoe7) (.int .i64 st) (.int .i64 (entS st r.l).sm) (.bool false))
            have lp8 : p < (((w7.setCell ⟨q, k * 3, none⟩ (.int .i64 st)).setCell ⟨q, k * 3 + 1, none⟩ (.int .i64 (entS st r.l).sm)).setCell ⟨q, k * 3 + 2, none⟩ (.bool false)).heap.size := by rw [size_set3]; exact Nat.lt_of_lt_of_le lp hb7.size
            have lw8 : w0.heap.size ≤ (((w7.setCell ⟨q, k * 3, none⟩ (.int .i64 st)).setCell ⟨q, k * 3 + 1, none⟩ (.int .i64 (entS st r.l).sm)).setCell ⟨q, k * 3 + 2, none⟩ (.bool false)).heap.size := by rw [size_set3]; exact Nat.le_trans lw6 hb7.size
            clear hoe7 hop7 hpl2
            go_simp
            refine hK.out _ _ cp8.c0 (fun hS => ?_)
            clear hK K c0 c1 c2 f0 f1 f2 cp7 hb7
            change Hid (OwnE (((w7.setCell ⟨q, k * 3, none⟩ (.int .i64 st)).setCell ⟨q, k * 3 + 1, none⟩ (.int .i64 (entS st r.l).sm)).setCell ⟨q, k * 3 + 2, none⟩ (.bool false)) _ _ _) at HE8
            generalize (((w7.setCell ⟨q, k * 3, none⟩ (.int .i64 st)).setCell ⟨q, k * 3 + 1, none⟩ (.int .i64 (entS st r.l).sm)).setCell ⟨q, k * 3 + 2, none⟩ (.bool false)) = w8 at *
            refine wpAnyH_done (by kernel_rfl) ?_ _
            go_wp2_with fail
            go_roundw
            case rel => exact ⟨i + 1, r.A, r.c, by omega, by go_num, by rw [HPH.out], by rw [HPH.out]; exact byB_arg (HRS.out.below HB8'.out) lw8 hq1, by rw [HPH.out]; have h9 := HE8.out; rw [List.set_set] at h9; exact h9, cp8, lp8, HP8.out, hb6.trans HB8'.out⟩
            case measure => simp [RowKit.intOf]; omega
        · have j2 : ¬ (i : Int) < (m : Int) := by omega
          obtain rfl : i = m := by omega
          have hKB : (pickK D x.es (lists hr) ats (lists br) st k i).1 = newB D x.es (lists hr) ats (lists br) st k := by rw [newB_pick, HM.out]
          have HE2 := Lib.hid (show (pickK D x.es (lists hr) ats (lists br) st k i).2 = (pickK D x.es (lists hr) ats (lists br) st k ats.length).2 by rw [HM.out])
          have HNB := Lib.hid (newB_length (D := D) (es := x.es) (st := st) HRI.out HD.out (show (lists br).length = ats.length by rw [lists_length, HBL.out, HM.out]) HB8.out k)
          rw [hKB] at HBYY ⊢
          clear hKB
          have i1 : (k : Int) < (N : Int) := by rw [HND.out]; omega
          have hpl2 : ((parE D x.es (lists hr) ats (lists br) st k).set k (pickK D x.es (lists hr) ats (lists br) st k i).2).length = N := by rw [List.length_set, hpl]
          have hpk : ((parE D x.es (lists hr) ats (lists br) st k).set k (pickK D x.es (lists hr) ats (lists br) st k i).2)[k]? = some (pickK D x.es (lists hr) ats (lists br) st k i).2 := List.getElem?_set_self (by rw [hpl, HND.out]; omega)
          have HES := Lib.hid (set1 hpl2 hpk HOE.out)
          by_cases hL : newB D x.es (lists hr) ats (lists br) st k = []
          case pos =>
            have HNE := Lib.hid (show (parE D x.es (lists hr) ats (lists br) st k).set k { (pickK D x.es (lists hr) ats (lists br) st k i).2 with ls := true } = parE D x.es (lists hr) ats (lists br) st (k + 1) from by
              rw [HE2.out, ← newE_none hL]
              exact parE_next (by rw [HN.out, HND.out]; omega))
            have HNP := Lib.hid (newP_none hL)
            have q1 : (((newB D x.es (lists hr) ats (lists br) st k).length : Int) == 0) = true := by rw [hL]; rfl
            obtain ⟨e9, -, c0, c1, c2⟩ := ent_cell hpl2 (show k < N by rw [HND.out]; omega) HOE.out
            have f2 := ent_frozen HOE.out (k * 3 + 2)
            have p0 := cp.c0
            have hpq : p ≠ q := Nat.ne_of_gt hq2
            have cp8 := cp.apart hpq (o := k * 3 + 2) (.bool true)
            have hb8 := hb6.setCell (p := ⟨q, k * 3 + 2, none⟩) hq1 (.bool true)
            have HP8 := Lib.hid (own_ent (o := k * 3 + 2) HOP.out HOE.out (.bool true))
            have lp8 : p < (w6.setCell ⟨q, k * 3 + 2, none⟩ (.bool true)).heap.size := by rw [World.size_setCell]; exact lp
            clear hL hpl2 hpk cp lp
            go_wp2_with fail
            go_roundw
            case rel => exact ⟨k + 1, by omega, by go_num, by rw [HNP.out]; exact HP8.out, by have h9 := HES.out; rw [List.set_set, HNE.out] at h9; exact h9, cp8, lp8, hb8⟩
            case measure => simp [RowKit.intOf]; omega
          case neg =>
            have hL8 := HNB.out.resolve_left hL
            have HNE := Lib.hid (show (parE D x.es (lists hr) ats (lists br) st k).set k (pickK D x.es (lists hr) ats (lists br) st k i).2 = parE D x.es (lists hr) ats (lists br) st (k + 1) from by
              rw [HE2.out, ← newE_some hL]
              exact parE_next (by rw [HN.out, HND.out]; omega))
            have HNP := Lib.hid (newP_some hL)
            have hP8 := newP_length (D := D) (es := x.es) (st := st) HRI.out HD.out (show (lists br).length = ats.length by rw [lists_length, HBL.out, HM.out]) HB8.out k
            obtain ⟨PX, pc, hpv, -, -, hps, -⟩ := id HOP.out.form
            rw [hP8] at hpv
            subst hpv
            have HTWO := Lib.hid (two_c PX X pc c 8 8 (newP D x.es (lists hr) ats (lists br) st k) (newB D x.es (lists hr) ats (lists br) st k) w6 hP8 hL8 rfl hps HBYY.out.h (by decide))
            have q1 : ((8 : Int) == 0) = false := rfl
            rw [hL8]
            clear hL hL8 hP8 hps hpl2 hpk
            go_wp2_with (go_at_call 44; (with_reducible refine HTWO.out.mono ?_); rintro e w8 ⟨⟨v8, rfl, ho8⟩, hb8⟩)
            have HO8 := Lib.hid (ho8.less lw6)
            clear ho8
            go_wp2_with fail
            go_roundw
            case rel => exact ⟨k + 1, by omega, by go_num, by rw [HNP.out]; exact HO8.out, by have h9 := OwnE.below HOE.out hb8; rw [HNE.out] at h9; exact h9, cp.keep hb8 lp, Nat.lt_of_lt_of_le lp hb8.size, hb6.trans (hb8.mono lw6)⟩
            case measure => simp [RowKit.intOf]; omega
    · have j1 : ¬ (k : Int) < (D : Int) := by omega
      obtain rfl : k = D := by omega
      have hP8 := newP_length (D := k) (es := x.es) (st := st) HRI.out HD.out (show (lists br).length = ats.length by rw [lists_length, HBL.out, HM.out]) HB8.out k
      obtain ⟨PX, pc, hpv, -, -, hps, -⟩ := id hop.form
      rw [hP8] at hpv
      subst hpv
      have RR4 := RR.keep hbr (show w.heap.size + 2 < w0.heap.size by omega)
      have HEN := Lib.hid (show ∀ W, Below w4.heap.size w4 W → Calls Try.prog 43 #[.int .i64 st, .slice PX 8 pc] W fun e w' => e = .returned (.agg #[.int .i64 st, .int .i64 (entS st (newP k x.es (lists hr) ats (lists br) st k)).sm, .bool false]) ∧ Below W.heap.size W w' from fun W hW => tbl.rentry_any st PX 8 pc _ W hP8 (by decide) (hps.next hW))
      have HSX := Lib.hid (show ∀ W, Below w4.heap.size w4 W → W.cell? ⟨p, 0, none⟩ = some (.slice (some ⟨q, 0, none⟩) N qc) ∧ W.cell? ⟨w.heap.size, 1, none⟩ = some (.int .i64 k) from fun W h => ⟨kst h lp cp.c0, kst h (by omega) g1⟩)
      have i1 : (k : Int) < (N : Int) := by rw [HND.out]; omega
      have HOE := Lib.hid hoe
      have HOP := Lib.hid hop
      have HLA := Lib.hid (parE_last (D := k) (hs := lists hr) (ats := ats) (bs := lists br) (st := st) (show x.es.length = k + 1 by rw [HN.out, HND.out]))
      have hpl : (parE k x.es (lists hr) ats (lists br) st k).length = N := by rw [parE_length (by rw [HN.out, HND.out]; omega), HN.out]
      obtain ⟨ev, hev⟩ : ∃ ev : Ent, ev = entS st (newP k x.es (lists hr) ats (lists br) st k) := ⟨_, rfl⟩
      have hes : ev.st = st ∧ ev.ls = false := by rw [hev]; exact ⟨rfl, rfl⟩
      rw [← hev] at HEN HLA
      clear hop hoe hps hP8 hev TT4 t0
      go_upto_region 16 with fail
      refine wp_region_held_drew (S := fun W => W.cell? ⟨p, 0, none⟩ = some (.slice (some ⟨q, 0, none⟩) N qc) ∧ W.cell? ⟨w.heap.size, 1, none⟩ = some (.int .i64 k)) (by kernel_rfl) (HSX.out _ (below_dr (Below.refl w4.heap.size w4))) (fun hS => ?_)
      (refine wpAnyH_take (i := 0) (v := ?_) rfl (by kernel_rfl) (by kernel_rfl) (by kernel_rfl) (fun _ _ _ h => h) (Or.inl ⟨by rfl, ?_⟩) (by assumption) ?_; rotate_left; (focus (intro w hSw; (try dsimp only at hSw); go_split_ands; go_simp <;> with_reducible rfl)); simp only [List.getElem_toArray, List.getElem_cons_zero, Act.put, List.setIfInBounds_toArray, List.set_cons_zero, List.set_cons_succ])
      (refine wpAnyH_take (i := 1) (v := ?_) rfl (by kernel_rfl) (by kernel_rfl) (by kernel_rfl) (fun _ _ _ h => h) (Or.inl ⟨by rfl, ?_⟩) (by assumption) ?_; rotate_left; (focus (intro w hSw; (try dsimp only at hSw); go_split_ands; go_simp <;> with_reducible rfl)); simp only [List.getElem_toArray, List.getElem_cons_zero, List.getElem_cons_succ, Act.put, List.setIfInBounds_toArray, List.set_cons_zero, List.set_cons_succ])
      (refine wpAnyH_take (i := 2) (v := ?_) rfl (by kernel_rfl) (by kernel_rfl) (by kernel_rfl) (fun _ _ _ h => h) (Or.inl ⟨by rfl, ?_⟩) (by assumption) ?_; rotate_left; (focus (intro w hSw; (try dsimp only at hSw); go_split_ands; go_simp <;> with_reducible rfl)); simp only [List.getElem_toArray, List.getElem_cons_zero, List.getElem_cons_succ, Act.put, List.setIfInBounds_toArray, List.set_cons_zero, List.set_cons_succ])
      (refine wpAnyH_take (i := 3) (v := ?_) rfl (by kernel_rfl) (by kernel_rfl) (by kernel_rfl) (fun _ _ _ h => h) (Or.inl ⟨by rfl, ?_⟩) (by assumption) ?_; rotate_left; (focus (intro w hSw; (try dsimp only at hSw); go_split_ands; go_simp <;> with_reducible rfl)); simp only [List.getElem_toArray, List.getElem_cons_zero, List.getElem_cons_succ, Act.put, List.setIfInBounds_toArray, List.set_cons_zero, List.set_cons_succ])
      (refine wpAnyH_take (i := 4) (v := ?_) rfl (by kernel_rfl) (by kernel_rfl) (by kernel_rfl) (fun _ _ _ h => h) (Or.inl ⟨by rfl, ?_⟩) (by assumption) ?_; rotate_left; (focus (intro w hSw; (try dsimp only at hSw); go_split_ands; go_simp <;> with_reducible rfl)); simp only [List.getElem_toArray, List.getElem_cons_zero, List.getElem_cons_succ, Act.put, List.setIfInBounds_toArray, List.set_cons_zero, List.set_cons_succ])
      (refine wpAnyH_take (i := 5) (v := ?_) rfl (by kernel_rfl) (by kernel_rfl) (by kernel_rfl) (fun _ _ _ h => h) (Or.inl ⟨by rfl, ?_⟩) (by assumption) ?_; rotate_left; (focus (intro w hSw; (try dsimp only at hSw); go_split_ands; go_simp <;> with_reducible rfl)); simp only [List.getElem_toArray, List.getElem_cons_zero, List.getElem_cons_succ, Act.put, List.setIfInBounds_toArray, List.set_cons_zero, List.set_cons_succ])
      refine wpAnyH_ready (rs := [6]) (by kernel_rfl) (by simp) ?_
      refine AllReadyH.cons rfl (fun K hK => ?_) AllReadyH.nil
      go_simp
      (with_reducible refine (HEN.out _ (below_dr (Below.refl _ _))).mono ?_)
      rintro e w7 ⟨rfl, hbq⟩
      have hb7 : Below w4.heap.size w4 w7 := bt (below_dr (Below.refl w4.heap.size w4)) hbq
      refine hK.out _ _ (HSX.out _ hb7) (fun hS => ?_)
      clear hK K hbq
      try simp only [List.getElem_toArray, List.getElem_cons_zero, List.getElem_cons_succ, Act.put, List.setIfInBounds_toArray, List.set_cons_zero, List.set_cons_succ]
      (refine wpAnyH_take (i := 7) (v := ?_) rfl (by kernel_rfl) (by kernel_rfl) (by kernel_rfl) (fun _ _ _ h => h) (Or.inl ⟨by rfl, ?_⟩) (by assumption) ?_; rotate_left; (focus (intro w hSw; (try dsimp only at hSw); go_split_ands; go_simp <;> with_reducible rfl)); simp only [List.getElem_toArray, List.getElem_cons_zero, List.getElem_cons_succ, Act.put, List.setIfInBounds_toArray, List.set_cons_zero, List.set_cons_succ])
      have hoe7 := OwnE.below HOE.out hb7
      obtain ⟨e9, -, c0, c1, c2⟩ := ent_cell hpl (show k < N by rw [HND.out]; omega) hoe7
      have f0 := ent_frozen hoe7 (k * 3)
      have f1 := ent_frozen hoe7 (k * 3 + 1)
      have f2 := ent_frozen hoe7 (k * 3 + 2)
      refine wpAnyH_ready (rs := [8]) (by kernel_rfl) (by simp) ?_
      refine AllReadyH.cons rfl (fun K hK => ?_) AllReadyH.nil
      have hpq : p ≠ q := Nat.ne_of_gt hq2
      have cp7 := cp.keep hb7 lp
      have cp8 := ((cp7.apart hpq (o := k * 3) (.int .i64 st)).apart hpq (o := k * 3 + 1) (.int .i64 ev.sm)).apart hpq (o := k * 3 + 2) (.bool false)
      have hb07 := hbr.trans (hb7.mono lw4)
      have HB8' := Lib.hid (below_set3 (o1 := k * 3) (o2 := k * 3 + 1) (o3 := k * 3 + 2) hb07 hq1 (.int .i64 st) (.int .i64 ev.sm) (.bool false))
      have HE8 := Lib.hid (set3 (e' := ev) hpl (show k < N by rw [HND.out]; omega) hoe7)
      rw [hes.1, hes.2] at HE8
      have hop7 := HOP.out.below hb7
      have HP8 := Lib.hid (own_ent3 (o1 := k * 3) (o2 := k * 3 + 1) (o3 := k * 3 + 2) hop7 (own_ne hop7 hoe7) (.int .i64 st) (.int .i64 ev.sm) (.bool false))
      have GG8 := GG.keep HB8'.out (show w.heap.size < w0.heap.size by omega)
      have RR8 := RR.keep HB8'.out (show w.heap.size + 2 < w0.heap.size by omega)
      have hg1 := GG8.g1
      clear hoe7 hop7 RR4 GG4 hes
      go_simp
      refine hK.out _ _ ⟨cp8.c0, hg1⟩ (fun hS => ?_)
      clear hK K c0 c1 c2 f0 f1 f2 cp7 hb7 hb07
      generalize (((w7.setCell ⟨q, k * 3, none⟩ (.int .i64 st)).setCell ⟨q, k * 3 + 1, none⟩ (.int .i64 ev.sm)).setCell ⟨q, k * 3 + 2, none⟩ (.bool false)) = w8 at *
      refine wpAnyH_done (by kernel_rfl) ?_ _
      have r0 : w8.cell? ⟨w.heap.size + 1 + 1, 0, none⟩ = some (.slice none 0 0) := RR8.c0
      have rf : w8.frozen? ⟨w.heap.size + 1 + 1, 0, none⟩ = false := RR8.f0
      have p0 := cp8.c0
      have hwr := bt hw HB8'.out
      have k9 : C1 (w8.setCell ⟨w.heap.size + 1 + 1, 0, none⟩ (.slice (some ⟨q, 0, none⟩) N qc)) (w.heap.size + 1 + 1) (.slice (some ⟨q, 0, none⟩) N qc) := C1.set RR8 (.slice (some ⟨q, 0, none⟩) N qc)
      have HE9 := Lib.hid (OwnE.cell_set (g := w.heap.size + 1 + 1) (o := 0) HE8.out (show w.heap.size + 1 + 1 < w0.heap.size by omega) (.slice (some ⟨q, 0, none⟩) N qc))
      have HP9 := Lib.hid (own_set (g := w.heap.size + 1 + 1) (o := 0) HP8.out (show w.heap.size + 1 + 1 < w0.heap.size by omega) (.slice (some ⟨q, 0, none⟩) N qc))
      have hw9 := hwr.setCell (p := ⟨w.heap.size + 1 + 1, 0, none⟩) (show w.heap.size ≤ w.heap.size + 1 + 1 by omega) (.slice (some ⟨q, 0, none⟩) N qc)
      have lw0 : w.heap.size ≤ w0.heap.size := by omega
      rw [HLA.out] at HE9
      clear hS HE8 HP8 hwr
      go_wp2_with fail
      have h10 := HE9.out.less lw0
      have hl9 : (newT k x.es (lists hr) ats (lists br) st).length = N := by rw [newT_length, HND.out]
      exact bodyPost_ret (v := .tuple #[.agg #[(.slice (some ⟨q, 0, none⟩) N qc)], .slice PX 8 pc]) (by simp [results, Try.results23, go_sem, k9.c0]) rfl ⟨⟨⟨some ⟨q, 0, none⟩, qc, newT k x.es (lists hr) ats (lists br) st⟩, PX, pc, by rw [HND.out], rfl, by unfold tbl.TV.Own; rw [hl9]; exact h10, HP9.out.less lw0⟩, hw9⟩
end Go.Proofs.Ythdahdopejapmaa.stp

namespace Go.Proofs.Ythdahdopejapmaa.stp
open Go.RowKit Go.Lib
open Go.Proofs.Ythdahdopejapmaa.gmt (Ok)
open Go.Proofs.Ythdahdopejapmaa.anc (bl kal kst ks bm ka)
open Go.Proofs.Ythdahdopejapmaa.tbl (Ent EntOk C1 c1_new G5 g5_new OwnE)
open Go.Proofs.Ythdahdopejapmaa.par (zx zeros zeros_length zx_length)
open Go.Proofs.Ythdahdopejapmaa.zon
open Go.Proofs.Ythdahdopejapmaa.img

/-- Blocks, one for each of k. -/
def BlkOk (k : Nat) (bs : List (List UInt8)) : Prop := bs.length = k ∧ ∀ y ∈ bs, y.length = 8
def StOk (st : Int) : Prop := 0 ≤ st ∧ st ≤ 4294967295
/-- What Write answers: the table and the parity; or why not. -/
def WrZ (base D : Nat) (es : List Ent) (p : List UInt8) (e : Ending) (w' : World) : Prop := ∃ (t : tbl.TV) (X : Option Addr) (c : Nat), e = .returned (.tuple #[.agg #[.slice t.A (D + 1 : Nat) t.c], .slice X 8 c, .int .i64 0]) ∧ t.es = es ∧ t.Own w' base ∧ Own w' base 5 (.slice X 8 c) p
def NoW (n : Int) (e : Ending) : Prop := ∃ (A : Option Addr) (c : Nat) (X : Option Addr) (k : Nat), c ≤ maxLen ∧ k ≤ maxLen ∧ e = .returned (.tuple #[.agg #[.slice A 0 c], .slice X 0 k, .int .i64 n])
def WrWhy (z d s l a : Int) (es : List Ent) (hs : List (List UInt8)) (ats : List Int) (bs : List (List UInt8)) (st : Int) (n : Int) : Prop :=
  (¬ (Ok z d s l a ∧ tbl.Good d es) ∧ n = 1) ∨ ((Ok z d s l a ∧ tbl.Good d es) ∧ ¬ HadOk (d.toNat + 1) hs ∧ n = 2) ∨ ((Ok z d s l a ∧ tbl.Good d es) ∧ HadOk (d.toNat + 1) hs ∧ ¬ (AtsOk d ats ∧ StOk st) ∧ n = 1) ∨ ((Ok z d s l a ∧ tbl.Good d es) ∧ HadOk (d.toNat + 1) hs ∧ (AtsOk d ats ∧ StOk st) ∧ ¬ BlkOk ats.length bs ∧ n = 2)
/-- What Images answers: the images; or why not. -/
def ImZ (ds : List (Int × Int × List UInt8)) (e : Ending) (w' : World) : Prop := ∃ (A : Option Addr) (c : Nat) (rs : List ImR), e = .returned (.tuple #[.slice A ds.length c, .int .i64 0]) ∧ ids rs = ds ∧ IV.In w' w'.heap.size ⟨A, c, rs⟩
def ImWhy (z d s l a : Int) (es : List Ent) (ats : List Int) (bs : List (List UInt8)) (p : List UInt8) (zn : Int) (n : Int) : Prop :=
  (¬ (Ok z d s l a ∧ tbl.Good d es) ∧ n = 1) ∨ ((Ok z d s l a ∧ tbl.Good d es) ∧ ¬ ((0 ≤ zn ∧ zn ≤ z - 1) ∧ AtsOk d ats) ∧ n = 1) ∨ ((Ok z d s l a ∧ tbl.Good d es) ∧ ((0 ≤ zn ∧ zn ≤ z - 1) ∧ AtsOk d ats) ∧ ¬ (BlkOk ats.length bs ∧ p.length = 8) ∧ n = 2)
/-- Indices, as they lie. -/
structure NV where
  A : Option Addr
  c : Nat
  l : List Int
structure NV.In (w : World) (B : Nat) (x : NV) : Prop where
  h : SlV w B x.A (ints x.l)
  k : x.l.length ≤ x.c ∧ x.c ≤ maxLen
theorem NV.In.next {w w' : World} {x : NV} (h : NV.In w w.heap.size x) (hb : Below w.heap.size w w') : NV.In w' w'.heap.size x := ⟨h.h.next hb, h.k⟩
/-- What is asked of package stripe, in every world behind w. -/
structure Cst (w : World) : Prop where
  write : ∀ (z s l a st : Int) (D : Nat) (x : tbl.TV) (N : Nat) (h : LV) (n : Nat) (i : NV) (m : Nat) (b : LV) (W : World), Below w.heap.size w W → Ok z D s l a → x.In W W.heap.size → x.es.length = N → tbl.Good D x.es → h.In W W.heap.size → h.rs.length = n → HadOk (D + 1) (lists h.rs) → i.In W W.heap.size → i.l.length = m → m ≤ 1048576 → AtsOk D i.l → StOk st → b.In W W.heap.size → b.rs.length = m → (∀ y ∈ lists b.rs, y.length = 8) → Calls Try.prog 11 #[.agg #[.int .i64 z, .int .i64 D, .int .i64 s, .int .i64 l, .int .i64 a], .agg #[.slice x.A N x.c], .slice h.A n h.c, .slice i.A m i.c, .slice b.A m b.c, .int .i64 st] W fun e w' => WrZ W.heap.size D (newT D x.es (lists h.rs) i.l (lists b.rs) st) (newP D x.es (lists h.rs) i.l (lists b.rs) st D) e w' ∧ Below W.heap.size W w'
  write_no : ∀ (v z d s l a st : Int) (x : tbl.TV) (N : Nat) (h : LV) (n : Nat) (i : NV) (m : Nat) (b : LV) (k : Nat) (W : World), Below w.heap.size w W → WrWhy z d s l a x.es (lists h.rs) i.l (lists b.rs) st v → x.In W W.heap.size → x.es.length = N → N ≤ 1048576 → h.In W W.heap.size → h.rs.length = n → n ≤ 1048576 → i.In W W.heap.size → i.l.length = m → m ≤ 1048576 → b.In W W.heap.size → b.rs.length = k → k ≤ 1048576 → Calls Try.prog 11 #[.agg #[.int .i64 z, .int .i64 d, .int .i64 s, .int .i64 l, .int .i64 a], .agg #[.slice x.A N x.c], .slice h.A n h.c, .slice i.A m i.c, .slice b.A k b.c, .int .i64 st] W fun e w' => NoW v e ∧ Below W.heap.size W w'
  images : ∀ (z s l a zn : Int) (D : Nat) (x : tbl.TV) (N : Nat) (P : Option Addr) (pc : Nat) (p : List UInt8) (i : NV) (m : Nat) (b : LV) (W : World), Below w.heap.size w W → Ok z D s l a → x.In W W.heap.size → x.es.length = N → tbl.Good D x.es → (0 ≤ zn ∧ zn ≤ z - 1) → Sl W W.heap.size P p → (8 ≤ pc ∧ pc ≤ maxLen) → p.length = 8 → i.In W W.heap.size → i.l.length = m → m ≤ 1048576 → AtsOk D i.l → b.In W W.heap.size → b.rs.length = m → (∀ y ∈ lists b.rs, y.length = 8) → Calls Try.prog 12 #[.agg #[.int .i64 z, .int .i64 D, .int .i64 s, .int .i64 l, .int .i64 a], .int .i64 zn, .agg #[.slice x.A N x.c], .slice P 8 pc, .slice i.A m i.c, .slice b.A m b.c] W fun e w' => ImZ (imgL zn x.es p i.l (lists b.rs)) e w' ∧ Below W.heap.size W w'
  images_no : ∀ (v z d s l a zn : Int) (x : tbl.TV) (N : Nat) (P : Option Addr) (pn pc : Nat) (p : List UInt8) (i : NV) (m : Nat) (b : LV) (k : Nat) (W : World), Below w.heap.size w W → ImWhy z d s l a x.es i.l (lists b.rs) p zn v → x.In W W.heap.size → x.es.length = N → N ≤ 1048576 → Sl W W.heap.size P p → p.length = pn → (pn ≤ pc ∧ pc ≤ maxLen) → i.In W W.heap.size → i.l.length = m → m ≤ 1048576 → b.In W W.heap.size → b.rs.length = k → k ≤ 1048576 → Calls Try.prog 12 #[.agg #[.int .i64 z, .int .i64 d, .int .i64 s, .int .i64 l, .int .i64 a], .int .i64 zn, .agg #[.slice x.A N x.c], .slice P pn pc, .slice i.A m i.c, .slice b.A k b.c] W fun e w' => tbl.NonE v e ∧ Below W.heap.size W w'
theorem Cst.next {w w' : World} (k : Cst w) (hb : Below w.heap.size w w') : Cst w' where
  write := fun z s l a st D x N h n i m b W hW => k.write z s l a st D x N h n i m b W (bt hb hW)
  write_no := fun v z d s l a st x N h n i m b q W hW => k.write_no v z d s l a st x N h n i m b q W (bt hb hW)
  images := fun z s l a zn D x N P pc p i m b W hW => k.images z s l a zn D x N P pc p i m b W (bt hb hW)
  images_no := fun v z d s l a zn x N P pn pc p i m b q W hW => k.images_no v z d s l a zn x N P pn pc p i m b q W (bt hb hW)
theorem imgL_length (z : Int) (es : List Ent) (p : List UInt8) (ats : List Int) (bs : List (List UInt8)) : (imgL z es p ats bs).length = ats.length + 2 := by simp [imgL]

theorem ok_w : Ok 1 2 0 14 1 := by unfold Ok; omega
set_option maxRecDepth 100000 in
set_option maxHeartbeats 4000000 in
theorem some_w (w : World) :
    Calls Try.prog 25 #[.int .i64 0, .int .i64 1, .int .i64 0, .int .i64 0, .int .i64 0] w fun e w' => (∃ D : Nat, D = 2 ∧ e = .returned (.agg #[.int .i64 1, .int .i64 D, .int .i64 0, .int .i64 14, .int .i64 1])) ∧ Below w.heap.size w w' := by
  go_enter Try.func25, Try.ntmps25
  go_wp2
  obtain ⟨g0, g1, g2, g3, g4⟩ := g5_new w 1 2 0 14 1
  exact bodyPost_ret (v := .agg #[.int .i64 1, .int .i64 2, .int .i64 0, .int .i64 14, .int .i64 1]) (by simp [results, Try.results25, go_sem, g0, g1, g2, g3, g4]) rfl ⟨⟨2, rfl, rfl⟩, bl w _⟩
theorem wk_p : newP 2 (fullE 0 [] [] 2) (fullH [] [] 2) [1] [b8] 4 2 = b8 := by decide +kernel
theorem wk_e0 : (newT 2 (fullE 0 [] [] 2) (fullH [] [] 2) [1] [b8] 4)[0]?.map Ent.st = some 0 := by decide +kernel
theorem wk_e1 : (newT 2 (fullE 0 [] [] 2) (fullH [] [] 2) [1] [b8] 4)[1]?.map Ent.st = some 4 := by decide +kernel
theorem wk_ats : AtsOk ((2 : Nat) : Int) [1] := by
  refine ⟨by simp, fun x hx => ?_, fun j x y hx hy => ?_⟩
  · rw [List.mem_singleton] at hx
    subst hx
    decide
  · rw [List.getElem?_eq_none (by simp)] at hy
    cases hy
end Go.Proofs.Ythdahdopejapmaa.stp
