/-
  place.copyOf: an anchor like it, all of it one's own. Conditions: rows shorter than 2^20; 'CloneOk'.
-/
import Derived.Test.YthbjfpgcinmjiaaDoorPlM
import Derived.Test.YthbjfpgcinmjiaaDoorGAe
import Derived.Test.YthbjfpgcinmjiaaDoorGLb
import Derived.Deep.QuietTactic
import Derived.Deep.RegionHeld3
import Derived.BigQuiet
import Derived.StillTailTactics
import Derived.IntWalk
namespace Go.Proofs.YthbjfpgcinmjiaaDoor.plc
open Go.RowKit Go.Lib
open Go.Proofs.YthbjfpgcinmjiaaDoor.gmt (Ok five_new)
open Go.Proofs.YthbjfpgcinmjiaaDoor.anc
open Go.Proofs.YthbjfpgcinmjiaaDoor.lbl (ValidOk CloneOk Tabs)

theorem hvs_src {w : World} {B : Nat} {A : Option Addr} {hs : List HomR} (h : SlV w B A (hvs hs)) {tx e' : TypeId} (hk : Tryd.prog.underlying tx = some (.slice e')) (n c : Nat) (hn : hs.length = n) : Src Tryd.prog 3 tx (.slice A n c) n (hvs hs) w := by
  subst hn
  by_cases hl : 0 < hs.length
  · obtain ⟨b, off, rfl, _, hc⟩ := h (by rw [hvs_length]; omega)
    refine Src.ofSlice w hk _ _ _ _ (hvs_length hs) (fun j u hu => ?_) (hvs_one hs)
    obtain ⟨hj, rfl⟩ := List.getElem?_eq_some_iff.1 hu
    rw [Addr.add_lit, hc j hj]
  · obtain rfl : hs = [] := List.eq_nil_of_length_eq_zero (by omega)
    cases A with
    | none => exact Src.ofNil w hk c
    | some a => exact Src.ofSlice w hk a 0 c [] rfl (fun j u hu => by simp at hu) (fun _ h => by cases h)
theorem hds_map_get {hs : List HomR} {J : Nat} {r : HomR} (hr : hs[J]? = some r) : (hds hs)[J]? = some r.d := by simp [hds, hr]
theorem nilH_eq (n c : Nat) (W : World) : (binOp .eql 24 (.slice none n c) (.slice none 0 0)).run Tryd.prog W = .ok (.bool true) W := by kernel_rfl
theorem someH_eq (a : Addr) (n c : Nat) (W : World) : (binOp .eql 24 (.slice (some a) n c) (.slice none 0 0)).run Tryd.prog W = .ok (.bool false) W := by kernel_rfl
/-- A row of homes of one's own, whose places are anyone's. -/
def RowH (base n : Nat) (hs : List HomR) (e : Ending) (w' : World) : Prop := ∃ A c, e = .returned (.slice A n c) ∧ w'.ownsRow base 44 3 (.slice A n c) n (hvs hs)
set_option maxRecDepth 100000 in
theorem cloneH_any (A : Option Addr) (c B n : Nat) (hs : List HomR) (w : World) (hln : hs.length = n) (hA : SlV w B A (hvs hs)) (hB : B ≤ w.heap.size) (hl : n ≤ 1048576) :
    Calls Tryd.prog 41 #[.slice A n c] w fun e w' => RowH w.heap.size n hs e w' ∧ Below w.heap.size w w' := by
  cases A with
  | none =>
    have hn0 : n = 0 := by
      rcases Nat.eq_zero_or_pos n with h | h
      · exact h
      · obtain ⟨b, off, h2, -⟩ := hA (by rw [hvs_length]; omega)
        cases h2
    subst hn0
    obtain rfl : hs = [] := List.eq_nil_of_length_eq_zero hln
    have hq := nilH_eq 0 c
    go_enter Tryd.func41, Tryd.ntmps41
    go_wp2
    go_ret
    exact ⟨⟨none, 0, rfl, World.ownsRow_nil w _ _ 3⟩, Below.refl _ _⟩
  | some a =>
    have hq := someH_eq a n c
    have src := hvs_src (hA.below ((bl w (.cells #[] 44)).mono hB)) Tryd.underlying24 n c hln
    have own0 : (w.alloc (.cells #[] 44)).ownsRow w.heap.size 44 3 (.slice (some ⟨w.heap.size, 0, none⟩) 0 0) 0 [] := World.ownsRow_lit w #[] 0 (Nat.le_refl _) (Nat.zero_le _) rfl
    have HS := Lib.hid src
    have HN := Lib.hid hln
    clear hln src
    go_enter Tryd.func41, Tryd.ntmps41
    go_wp2_with (first
      | (at_builtin
         refine wpList_row _ rfl (.tmp 5) (.tmp 6) _ _ rfl w.heap.size 3 40 44 (.agg #[.slice none 0 0, .int .i64 0, .int .i64 0]) Tryd.underlying24 h_info rfl (.slice (some ⟨w.heap.size, 0, none⟩) 0 0) 0 [] rfl own0 _ n (hvs hs) rfl HS.out ?_ ?_ ?_ ?_
         · unfold maxLen; omega
         · omega
         · simp
         intro v2 w2 hown2 hg2))
    have hf := row_form hown2
    rw [Nat.zero_add] at hf hown2
    obtain ⟨A2, c2, rfl, -, -, -⟩ := hf
    go_ret
    exact ⟨⟨A2, c2, rfl, by simpa using hown2⟩, (bl w (.cells #[] 44)).grown hg2 (by simp) (fun k hk => by simp [Value.ownBlock] at hk; omega)⟩

/-- A row of homes of one's own, the first of which have places of one's own, too. -/
structure HalfH (w : World) (base : Nat) (v : Value) (n : Nat) (rs qs : List HomR) : Prop where
  len : rs.length + qs.length = n
  row : w.ownsRow base 44 3 v n (hvs (rs ++ qs))
  own : ∀ r ∈ rs, OwnV w base 3 (.slice r.A r.ps.length r.c) (ints r.ps)
  par : Parted rs
theorem HalfH.below {w w' : World} {base n : Nat} {v : Value} {rs qs : List HomR} (h : HalfH w base v n rs qs) (hb : Below w.heap.size w w') : HalfH w' base v n rs qs :=
  ⟨h.len, row_below h.row hb, fun r hr => (h.own r hr).below hb, h.par⟩
theorem HalfH.start {w : World} {base n : Nat} {v : Value} {hs : List HomR} (hn : hs.length = n) (h : w.ownsRow base 44 3 v n (hvs hs)) : HalfH w base v n [] hs :=
  ⟨by simpa using hn, h, fun r hr => (by cases hr), parted_nil⟩
theorem hvs_place {hs : List HomR} {j : Nat} {r : HomR} (hj : hs[j]? = some r) (A : Option Addr) (c : Nat) : hvs (hs.set j { r with A := A, c := c }) = (hvs hs).set (j * 3 + 0) (.slice A r.ps.length c) :=
  flat_set HomR.vs 3 (fun _ => rfl) hs j 0 { r with A := A, c := c } (.slice A r.ps.length c) (by omega) (fun y hy => by
    rw [hj] at hy
    obtain rfl := Option.some.inj hy
    rfl)
theorem HalfH.at {w : World} {base n c : Nat} {A : Option Addr} {rs qs : List HomR} {r : HomR} (h : HalfH w base (.slice A n c) n rs (r :: qs)) :
    ∃ g, A = some ⟨g, 0, none⟩ ∧ base ≤ g ∧ g < w.heap.size ∧ n ≤ c ∧ w.cell? ⟨g, rs.length * 3, none⟩ = some (.slice r.A r.ps.length r.c) ∧ w.frozen? ⟨g, rs.length * 3, none⟩ = false := by
  have h1 := h.row
  rcases h1.2 with ⟨e, hn⟩ | ⟨g, cap, cur, e, -, -, hc, -⟩
  · have := h.len
    simp at this
    simp only [Value.slice.injEq] at e
    omega
  · simp only [Value.slice.injEq] at e
    obtain ⟨rfl, -, rfl⟩ := e
    have hl := World.ownsRow.lt h1 g rfl
    refine ⟨g, rfl, hl.1, hl.2, hc, ?_, World.ownsRow.frozenAt h1 _⟩
    have hi : (hvs (rs ++ r :: qs))[rs.length * 3 + 0]? = some (.slice r.A r.ps.length r.c) := by
      unfold hvs
      rw [flat_get HomR.vs 3 (fun _ => rfl) _ _ 0 (by omega)]
      simp
      rfl
    have := World.ownsRow.cells h1 (g := g) rfl _ _ hi
    rwa [Addr.add_lit, Nat.zero_add] at this
theorem HalfH.step {w w1 : World} {base n c c2 g : Nat} {A2 : Option Addr} {rs qs : List HomR} {r : HomR} (h : HalfH w base (.slice (some ⟨g, 0, none⟩) n c) n rs (r :: qs)) (hb : Below w.heap.size w w1) (hB : base ≤ w.heap.size) (B : Nat) (hB2 : w.heap.size ≤ B) (ho : OwnV w1 B 3 (.slice A2 r.ps.length c2) (ints r.ps)) :
    HalfH (w1.setCell ⟨g, rs.length * 3, none⟩ (.slice A2 r.ps.length c2)) base (.slice (some ⟨g, 0, none⟩) n c) n (rs ++ [{ r with A := A2, c := c2 }]) qs := by
  have hk := h.below hb
  have hj : (rs ++ r :: qs)[rs.length]? = some r := by simp
  have hst : ∀ {q : HomR} {B' : Nat}, OwnV w1 B' 3 (.slice q.A q.ps.length q.c) (ints q.ps) → OwnV (w1.setCell ⟨g, rs.length * 3, none⟩ (.slice A2 r.ps.length c2)) B' 3 (.slice q.A q.ps.length q.c) (ints q.ps) := fun hq => by
    refine ownsRow_setCell_other hq (fun e => ?_) _
    rcases row_apart hq hk.row int_home with k | k
    · rw [e] at k; cases k
    · exact k (by rw [e]; rfl)
  refine ⟨?_, ?_, fun q hq => ?_, ?_⟩
  · have := h.len; simp at this ⊢; omega
  · have e := hvs_place hj A2 c2
    rw [show (rs ++ r :: qs).set rs.length { r with A := A2, c := c2 } = rs ++ [{ r with A := A2, c := c2 }] ++ qs by simp] at e
    rw [e, Nat.add_zero]
    exact (World.ownsRow.stored hk.row (rs.length * 3) _).1
  · rcases List.mem_append.1 hq with k | k
    · exact hst (hk.own q k)
    · obtain rfl := List.mem_singleton.1 k
      exact (hst (q := { r with A := A2, c := c2 }) ho).less (by omega)
  · exact Parted.more (r := { r with A := A2, c := c2 }) h.par (fun q hq a ha => (own_ge (h.own q hq) a ha).2) (fun a ha => by have := (own_ge ho a ha).1; omega)
theorem HalfH.whole {w : World} {base n c : Nat} {A : Option Addr} {rs : List HomR} (h : HalfH w base (.slice A n c) n rs []) : OwnH w base (.slice A rs.length c) rs ∧ Parted rs := by
  have h1 := h.len
  have h2 := h.row
  rw [List.append_nil] at h2
  simp at h1
  rw [← h1] at h2
  exact ⟨⟨h2, h.own⟩, h.par⟩
theorem HalfH.cell_set {w : World} {base g o n : Nat} {v : Value} {rs qs : List HomR} (h : HalfH w base v n rs qs) (hg : g < base) (x : Value) : HalfH (w.setCell ⟨g, o, none⟩ x) base v n rs qs := by
  have hne : ∀ {e : TypeId} {u : Value} {k n : Nat} {xs : List Value}, w.ownsRow base e k u n xs → u.ownBlock ≠ some g := fun hu k => by have := (World.ownsRow.lt hu g k).1; omega
  exact ⟨h.len, ownsRow_setCell_other h.row (hne h.row) x, fun r hr => ownsRow_setCell_other (h.own r hr) (hne (h.own r hr)) x, h.par⟩
theorem HalfH.v_of {w : World} {base n : Nat} {v : Value} {rs qs : List HomR} (h : HalfH w base v n rs qs) : ∃ A c, v = .slice A n c := by
  obtain ⟨A, c, hv, -⟩ := row_form h.row
  exact ⟨A, c, hv⟩
end Go.Proofs.YthbjfpgcinmjiaaDoor.plc
