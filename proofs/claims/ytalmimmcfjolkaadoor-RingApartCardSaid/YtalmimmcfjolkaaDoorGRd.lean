/-
  Plain mathematics of RingNeeds: which blocks are met, which zones. No condition beyond each theorem's own.
  Rows of truths of one's own: made, written over. Conditions: none.
  The developers' own isFrom, isSlot, around, isTxn of package ring. Conditions: a right geometry, fewer than 2^20 images and bytes.
  The developers' own end, Check, Next of package ring. Conditions: a right geometry, fewer than 2^20 transactions, images and bytes.
  The developers' own Who and Used of package ring. Conditions: a right geometry, a slot of it, fewer than 2^20 transactions.
  The developers' own Need of package ring. Conditions: a right geometry, blocks of it, none twice.
  What the laws of package ring ask of its functions holds of the developers' code, in every world in which the tables lie as their text lays them. Conditions: none but that.
-/
import Derived.Test.YtalmimmcfjolkaaDoorGRa
import Derived.Laws.OwnMore
import Derived.OneCell
import Derived.Test.YtalmimmcfjolkaaDoorGRb
import Derived.Test.YtalmimmcfjolkaaDoorRcYA
import Derived.IntWalk
import Derived.Deep.QuietTactic
import Derived.BigQuiet
import Derived.Test.YtalmimmcfjolkaaDoorGGm
import Derived.Deep.CutRange
import Derived.Deep.RegionHeld3
namespace Go.Proofs.YtalmimmcfjolkaaDoor.rng
open Go.RowKit Go.Lib

/-- What is known of the blocks met. -/
structure Mt (z d : Nat) (ps : List Int) (met per : List Bool) : Prop where
  lm : met.length = z * d
  lp : per.length = z
  m : ∀ k : Nat, k < z * d → met[k]? = some (decide ((k : Int) ∈ ps))
  p : ∀ k : Nat, k < z → per[k]? = some (decide (∃ y ∈ ps, y / (d : Int) = (k : Int)))
  ok : LbasOk z d ps
theorem Mt.nil (z d : Nat) : Mt z d [] (List.replicate (z * d) false) (List.replicate z false) := by
  refine ⟨by simp, by simp, fun k hk => ?_, fun k hk => ?_, fun x hx => (by cases hx), List.nodup_nil⟩
  · rw [List.getElem?_replicate, if_pos hk]; simp
  · rw [List.getElem?_replicate, if_pos hk]; simp
theorem div_lt {z d x : Nat} (hx : x < z * d) : x / d < z := by
  have hd : 0 < d := by
    rcases Nat.eq_zero_or_pos d with h | h
    · rw [h, Nat.mul_zero] at hx; omega
    · exact h
  exact (Nat.div_lt_iff_lt_mul hd).2 hx
section
variable {z d x : Nat} {ps : List Int} {met per : List Bool}
theorem Mt.okay (h : Mt z d ps met per) (hx : x < z * d) (hn : met[x]? = some false) : LbasOk z d (ps ++ [(x : Int)]) := by
  have h1 := h.m x hx
  rw [hn] at h1
  have h2 : (x : Int) ∉ ps := fun k => by
    have h3 := Option.some.inj h1
    rw [decide_eq_true k] at h3
    cases h3
  refine ⟨fun y hy => ?_, ?_⟩
  · rcases List.mem_append.1 hy with k | k
    · exact h.ok.1 y k
    · obtain rfl := List.mem_singleton.1 k
      exact ⟨by omega, by rw [← Int.natCast_mul]; omega⟩
  · rw [List.nodup_append]
    exact ⟨h.ok.2, by simp, fun a ha b hb e => h2 (by rw [← List.mem_singleton.1 hb, ← e]; exact ha)⟩
theorem Mt.next (h : Mt z d ps met per) (hx : x < z * d) (hn : met[x]? = some false) : Mt z d (ps ++ [(x : Int)]) (met.set x true) (per.set (x / d) true) := by
  have hz := div_lt hx
  refine ⟨by rw [List.length_set]; exact h.lm, by rw [List.length_set]; exact h.lp, fun k hk => ?_, fun k hk => ?_, h.okay hx hn⟩
  · by_cases e : x = k
    · subst e
      rw [List.getElem?_set_self (by rw [h.lm]; exact hk)]
      simp
    · rw [List.getElem?_set_ne e, h.m k hk]
      congr 1
      rw [decide_eq_decide, List.mem_append, List.mem_singleton]
      constructor
      · exact fun q => .inl q
      · rintro (q | q)
        · exact q
        · omega
  · by_cases e : x / d = k
    · subst e
      rw [List.getElem?_set_self (by rw [h.lp]; exact hk)]
      congr 1
      symm
      exact decide_eq_true ⟨(x : Int), by simp, by simp⟩
    · rw [List.getElem?_set_ne e, h.p k hk]
      congr 1
      rw [decide_eq_decide]
      constructor
      · rintro ⟨y, hy, q⟩
        exact ⟨y, List.mem_append_left _ hy, q⟩
      · rintro ⟨y, hy, q⟩
        rcases List.mem_append.1 hy with k' | k'
        · exact ⟨y, k', q⟩
        · obtain rfl := List.mem_singleton.1 k'
          exact absurd (by rw [← Int.natCast_ediv] at q; exact Int.ofNat.inj q) e
/-- A zone that has one already: nothing is stored. -/
theorem set_same {l : List Bool} {k : Nat} (h : l[k]? = some true) : l.set k true = l := by
  apply List.ext_getElem?
  intro i
  by_cases e : k = i
  · subst e
    rw [h]
    exact List.getElem?_set_self (List.getElem?_eq_some_iff.1 h).1
  · rw [List.getElem?_set_ne e]
theorem Mt.zone (h : Mt z d ps met per) (hx : x < z * d) {b : Bool} (hb : per[x / d]? = some b) : (zr d (ps ++ [(x : Int)]).reverse : Int) = zr d ps.reverse + (if b = true then 0 else 1) := by
  have h1 := h.p (x / d) (div_lt hx)
  rw [hb] at h1
  have h2 := Option.some.inj h1
  rw [zr_snoc]
  have e : ((x / d : Nat) : Int) = (x : Int) / (d : Int) := Int.natCast_ediv x d
  by_cases c : ∃ y ∈ ps, y / (d : Int) = (x : Int) / (d : Int)
  · rw [if_pos c]
    have : b = true := by rw [h2, e]; exact decide_eq_true c
    rw [if_pos this]
    simp
  · rw [if_neg c]
    have : b = false := by rw [h2, e]; exact decide_eq_false c
    rw [if_neg (by rw [this]; exact Bool.false_ne_true)]
    simp
/-- What Need answers behind one more. -/
theorem needN_snoc (d : Int) (ps : List Int) (x : Int) : needN d (ps ++ [x]) = (ps.length : Int) + 1 + 2 * (zr d (ps ++ [x]).reverse : Int) + 1 := by
  unfold needN
  rw [if_neg (by simp)]
  simp
end
end Go.Proofs.YtalmimmcfjolkaaDoor.rng

namespace Go.Proofs.YtalmimmcfjolkaaDoor.rng
open Go.RowKit Go.Lib
open Go.Proofs.YtalmimmcfjolkaaDoor.anc (row_form row_below)

def tru (l : List Bool) : List Value := l.map Value.bool
theorem tru_length (l : List Bool) : (tru l).length = l.length := by simp [tru]
/-- A row of truths of one's own. -/
def OwnB (w : World) (base : Nat) (v : Value) (l : List Bool) : Prop := w.ownsRow base 4 1 v l.length (tru l)
theorem b_info : (Tryd.prog.info? 4).map (fun i => (i.zero, i.size, i.bytes)) = some (some (.bool false), 1, 1) := by kernel_rfl
theorem makeB (n base : Nat) (W : World) (hn : n ≤ 1048576) (hb : base ≤ W.heap.size) :
    ∃ w', (Instr.makeSlice 47 (.int .i64 (n : Int)) (.int .i64 (n : Int))).run Tryd.prog W = .ok (.slice (some ⟨W.heap.size, 0, none⟩) n n) w' ∧
      OwnB w' base (.slice (some ⟨W.heap.size, 0, none⟩) n n) (List.replicate n false) ∧ W.grownBy w' none := by
  obtain ⟨i, hi, hz, h1, hb8⟩ : ∃ i, Tryd.prog.info? 4 = some i ∧ i.zero = some (.bool false) ∧ i.size = 1 ∧ i.bytes = 1 := by
    have h9 := b_info
    cases hq : Tryd.prog.info? 4 with
    | none => rw [hq] at h9; cases h9
    | some i =>
      rw [hq] at h9
      simp only [Option.map_some, Option.some.injEq, Prod.mk.injEq] at h9
      exact ⟨i, rfl, h9.1, h9.2.1, h9.2.2⟩
  have ht := Tryd.underlying47
  obtain ⟨w', hr, ho, hg⟩ := run_makeSlice_full (P := Tryd.prog) (w := W) base 47 4 i (.bool false) 1 ht hi hz h1 .i64 .i64 n (by omega) (by rw [hb8]; omega) (by unfold maxLen; omega) hb
  refine ⟨w', hr, ?_, hg⟩
  unfold OwnB
  rw [List.length_replicate]
  rw [Nat.mul_one] at ho
  have e : (madeCells (Value.bool false).cells n).toList = tru (List.replicate n false) := by
    unfold madeCells tru
    have h1 : (Value.bool false).cells = #[.bool false] := rfl
    rw [h1]
    apply List.ext_getElem
    · simp
    · intro i h2 h3
      simp [Nat.mod_one]
  rw [← e]
  exact ho
section
variable {w w' : World} {base g n c k : Nat} {l : List Bool} {v : Value}
theorem OwnB.below (h : OwnB w base v l) (hb : Below w.heap.size w w') : OwnB w' base v l := row_below h hb
theorem OwnB.store (h : OwnB w base (.slice (some ⟨g, 0, none⟩) n c) l) (b : Bool) : OwnB (w.setCell ⟨g, k, none⟩ (.bool b)) base (.slice (some ⟨g, 0, none⟩) n c) (l.set k b) := by
  have hn : n = l.length := by
    obtain ⟨A, c', e, -⟩ := row_form h
    simp only [Value.slice.injEq] at e
    exact e.2.1
  subst hn
  unfold OwnB
  rw [List.length_set, show tru (l.set k b) = (tru l).set k (.bool b) by simp [tru, List.map_set]]
  exact (World.ownsRow.stored h k (.bool b)).1
theorem OwnB.other {o : Nat} (h : OwnB w base v l) (h1 : v.ownBlock ≠ some g) (u : Value) : OwnB (w.setCell ⟨g, o, none⟩ u) base v l := ownsRow_setCell_other h h1 u
theorem OwnB.frozen (h : OwnB w base (.slice (some ⟨g, 0, none⟩) n c) l) (o : Nat) : w.frozen? ⟨g, o, none⟩ = false := by
  obtain ⟨A, c', e, -⟩ := row_form h
  simp only [Value.slice.injEq] at e
  have hn := e.2.1
  subst hn
  exact World.ownsRow.frozenAt h o
theorem OwnB.cell {b : Bool} (h : OwnB w base (.slice (some ⟨g, 0, none⟩) n c) l) (hk : l[k]? = some b) : w.cell? ⟨g, k, none⟩ = some (.bool b) ∧ base ≤ g ∧ g < w.heap.size := by
  obtain ⟨A, c', e, -, -, hs⟩ := row_form h
  simp only [Value.slice.injEq] at e
  obtain ⟨hk1, hk2⟩ := List.getElem?_eq_some_iff.1 hk
  obtain ⟨b', off, hA, -, hc⟩ := hs (by rw [tru_length]; omega)
  rw [← e.1] at hA
  simp only [Option.some.injEq, Addr.mk.injEq, and_true] at hA
  obtain ⟨rfl, rfl⟩ := hA
  have h3 := hc k (by rw [tru_length]; exact hk1)
  have h4 := World.ownsRow.lt h g rfl
  refine ⟨?_, h4⟩
  rw [Nat.zero_add] at h3
  rw [h3]
  simp [tru, hk2]
end
end Go.Proofs.YtalmimmcfjolkaaDoor.rng

namespace Go.Proofs.YtalmimmcfjolkaaDoor.rng
open Go.RowKit Go.Lib
open Go.Proofs.YtalmimmcfjolkaaDoor.gmt (Ok)
open Go.Proofs.YtalmimmcfjolkaaDoor.anc (AV bl kal kst ks bm ka)
open Go.Proofs.YtalmimmcfjolkaaDoor.tbl (G5 g5_new)
open Go.Proofs.YtalmimmcfjolkaaDoor.lrc (C4 c4_new bool_is bool_no ImOk ImsOk image_c)
open Go.Proofs.YtalmimmcfjolkaaDoor.img

set_option maxRecDepth 100000 in
set_option maxHeartbeats 8000000 in
theorem fromR_c (b : Bool) (n lo hi : Int) (w : World) (hb : b = true ↔ lo ≤ n ∧ n ≤ hi) :
    Calls Tryd.prog 26 #[.int .i64 n, .int .i64 lo, .int .i64 hi] w fun e w' => e = .returned (.bool b) ∧ w = w' := by
  by_cases h1 : lo ≤ n
  · by_cases h2 : n ≤ hi
    · obtain rfl : b = true := hb.2 ⟨h1, h2⟩
      clear hb
      go_enter Tryd.func26, Tryd.ntmps26
      go_wp2
      go_ret
      exact ⟨rfl, rfl⟩
    · obtain rfl : b = false := bool_no hb fun h => h2 h.2
      clear hb
      go_enter Tryd.func26, Tryd.ntmps26
      go_wp2
      go_ret
      exact ⟨rfl, rfl⟩
  · obtain rfl : b = false := bool_no hb fun h => h1 h.1
    clear hb
    go_enter Tryd.func26, Tryd.ntmps26
    go_wp2
    go_ret
    exact ⟨rfl, rfl⟩
set_option maxRecDepth 100000 in
set_option maxHeartbeats 8000000 in
theorem slotR_c (b : Bool) (z d s l a n : Int) (w : World) (ho : Ok z d s l a) (hb : b = true ↔ 0 ≤ n ∧ n ≤ l - 1) :
    Calls Tryd.prog 25 #[.agg #[.int .i64 z, .int .i64 d, .int .i64 s, .int .i64 l, .int .i64 a], .int .i64 n] w fun e w' => e = .returned (.bool b) ∧ Below w.heap.size w w' := by
  have GG := g5_new w z d s l a
  have hw := bl w (.cells #[.int .i64 z, .int .i64 d, .int .i64 s, .int .i64 l, .int .i64 a] 23)
  have hl : 14 ≤ l ∧ l ≤ 30 := ho.2.2.2.1
  have u1 : IntKind.i64.wrap (l - 1) = l - 1 := IntWalk.i64_in _ (by omega)
  have H1 := Lib.hid fun W => fromR_c b n 0 (l - 1) W hb
  clear hb ho
  go_enter Tryd.func25, Tryd.ntmps25
  go_upto_region 1 with fail
  generalize w.alloc (.cells #[.int .i64 z, .int .i64 d, .int .i64 s, .int .i64 l, .int .i64 a] 23) = w0 at *
  obtain ⟨g0, g1, g2, g3, g4⟩ := id GG
  go_wp2_with (go_at_call 26; (with_reducible refine (H1.out _).mono ?_); rintro e w1 ⟨rfl, rfl⟩)
  go_ret
  exact ⟨rfl, hw⟩
set_option maxRecDepth 100000 in
set_option maxHeartbeats 8000000 in
theorem aroundR_c (z d s l a n q : Int) (w : World) (ho : Ok z d s l a) (hn : -l < n ∧ n ≤ 1000000000) (hq : (n + l) % l = q) :
    Calls Tryd.prog 27 #[.agg #[.int .i64 z, .int .i64 d, .int .i64 s, .int .i64 l, .int .i64 a], .int .i64 n] w fun e w' => e = .returned (.int .i64 q) ∧ Below w.heap.size w w' := by
  have GG := g5_new w z d s l a
  have hw := bl w (.cells #[.int .i64 z, .int .i64 d, .int .i64 s, .int .i64 l, .int .i64 a] 23)
  have hl : 14 ≤ l ∧ l ≤ 30 := ho.2.2.2.1
  have u1 : IntKind.i64.wrap (n + l) = n + l := IntWalk.i64_in _ (by omega)
  have q1 : ¬ l = 0 := by omega
  have q3 : (l == 0) = false := beq_eq_false_iff_ne.2 q1
  have HQ := Lib.hid (show (n + l).tmod l = q by rw [Int.tmod_eq_emod_of_nonneg (by omega)]; exact hq)
  have hq2 : 0 ≤ q ∧ q < l := by rw [← hq]; exact ⟨Int.emod_nonneg _ q1, Int.emod_lt_of_pos _ (by omega)⟩
  have q4 := HQ.out
  clear ho hq
  go_enter Tryd.func27, Tryd.ntmps27
  go_upto_region 1 with fail
  generalize w.alloc (.cells #[.int .i64 z, .int .i64 d, .int .i64 s, .int .i64 l, .int .i64 a] 23) = w0 at *
  obtain ⟨g0, g1, g2, g3, g4⟩ := id GG
  go_wp2_with fail
  go_ret
  exact ⟨rfl, hw⟩
set_option maxRecDepth 100000 in
set_option maxHeartbeats 8000000 in
theorem txnR_c (b : Bool) (z d s l a : Int) (t : TxR) (n : Nat) (room : Int) (w : World) (ho : Ok z d s l a) (ht : IV.In w w.heap.size t.iv) (hn : t.rs.length = n) (hn1 : n ≤ 1048576) (hsh : ∀ x ∈ t.rs, x.l.length ≤ 1048576) (hb : b = true ↔ (2 ≤ t.nm ∧ t.nm ≤ room) ∧ t.nm = (n : Int) + 1 ∧ ImsOk z d (ids t.rs)) :
    Calls Tryd.prog 36 #[.agg #[.int .i64 z, .int .i64 d, .int .i64 s, .int .i64 l, .int .i64 a], .agg #[.int .i64 t.sq, .int .i64 t.ps, .int .i64 t.nm, .slice t.A n t.c], .int .i64 room] w fun e w' => e = .returned (.bool b) ∧ Below w.heap.size w w' := by
  have s1 : (w.alloc (.cells #[.int .i64 z, .int .i64 d, .int .i64 s, .int .i64 l, .int .i64 a] 23)).heap.size = w.heap.size + 1 := by simp
  have hx2 := bl (w.alloc (.cells #[.int .i64 z, .int .i64 d, .int .i64 s, .int .i64 l, .int .i64 a] 23)) (.cells #[.int .i64 t.sq, .int .i64 t.ps, .int .i64 t.nm, .slice t.A n t.c] 40)
  have GG := (g5_new w z d s l a).keep hx2 (by omega)
  have XX := c4_new (w.alloc (.cells #[.int .i64 z, .int .i64 d, .int .i64 s, .int .i64 l, .int .i64 a] 23)) (.int .i64 t.sq) (.int .i64 t.ps) (.int .i64 t.nm) (.slice t.A n t.c) 40
  rw [s1] at XX
  have hw := kal (bl w (.cells #[.int .i64 z, .int .i64 d, .int .i64 s, .int .i64 l, .int .i64 a] 23)) (.cells #[.int .i64 t.sq, .int .i64 t.ps, .int .i64 t.nm, .slice t.A n t.c] 40)
  have l2 : w.heap.size + 1 < ((w.alloc (.cells #[.int .i64 z, .int .i64 d, .int .i64 s, .int .i64 l, .int .i64 a] 23)).alloc (.cells #[.int .i64 t.sq, .int .i64 t.ps, .int .i64 t.nm, .slice t.A n t.c] 40)).heap.size := by simp
  obtain ⟨b1, hb1⟩ := bool_is (2 ≤ t.nm ∧ t.nm ≤ room)
  have H1 := Lib.hid fun W => fromR_c b1 t.nm 2 room W hb1
  have HI := Lib.hid (ht.next hw)
  have HB := Lib.hid hb
  have HN := Lib.hid hn
  have HO := Lib.hid ho
  have HSH := Lib.hid hsh
  have HB1 := Lib.hid hb1
  clear s1 hx2 ht hn hb hb1 ho hsh
  go_enter Tryd.func36, Tryd.ntmps36
  go_upto_region 1 with fail
  generalize (w.alloc (.cells #[.int .i64 z, .int .i64 d, .int .i64 s, .int .i64 l, .int .i64 a] 23)).alloc (.cells #[.int .i64 t.sq, .int .i64 t.ps, .int .i64 t.nm, .slice t.A n t.c] 40) = w0 at *
  obtain ⟨g0, g1, g2, g3, g4⟩ := id GG
  obtain ⟨x0, x1, x2, x3⟩ := id XX
  cases b1
  · have H : Hid (b = false) := Lib.hid (bool_no HB.out fun h => absurd (HB1.out.2 h.1) Bool.false_ne_true)
    go_wp2_with (go_at_call 26; (with_reducible refine (H1.out _).mono ?_); rintro e w1 ⟨rfl, rfl⟩)
    go_ret
    exact ⟨ret_bool H.out.symm, hw⟩
  obtain ⟨m1, m2⟩ := HB1.out.1 rfl
  have u1 : IntKind.i64.wrap ((n : Int) + 1) = (n : Int) + 1 := IntWalk.i64_in _ (by omega)
  by_cases h2 : t.nm = (n : Int) + 1
  case neg =>
    have H : Hid (b = false) := Lib.hid (bool_no HB.out fun h => h2 h.2.1)
    have q : (t.nm != (n : Int) + 1) = true := bne_iff_ne.2 h2
    clear h2
    go_wp2_with (go_at_call 26; (with_reducible refine (H1.out _).mono ?_); rintro e w1 ⟨rfl, rfl⟩)
    go_ret
    exact ⟨ret_bool H.out.symm, hw⟩
  have q : (t.nm != (n : Int) + 1) = false := by rw [h2]; exact bne_self_eq_false _
  have HB2 := Lib.hid (show b = true ↔ ∀ y ∈ ids t.rs, ImOk z d y.1 y.2.1 y.2.2 from HB.out.trans ⟨fun h => h.2.2, fun h => ⟨⟨m1, m2⟩, h2, h⟩⟩)
  have HM := Lib.hid h2
  clear h2
  go_upto_region 4 with (go_at_call 26; (with_reducible refine (H1.out _).mono ?_); rintro e w1 ⟨rfl, rfl⟩)
  clear g0 g1 g2 g3 g4 x0 x1 x2 x3 q u1 m1 m2 H1 HB HB1
  have HMG := Lib.hid (show ∀ W, Below w0.heap.size w0 W → G5 W w.heap.size z d s l a from fun W hW => GG.keep hW (by omega))
  clear GG XX
  go_loopw [26] (fun i w' => ∃ k : Nat, k ≤ n ∧ i = .int .i64 k ∧ (∀ y ∈ (ids t.rs).take k, ImOk z d y.1 y.2.1 y.2.2) ∧ Below w0.heap.size w0 w') (fun i _ => n - (RowKit.intOf i).toNat)
  case atStart => exact ⟨0, by omega, rfl, by simp, Below.refl _ _⟩
  case round =>
    obtain ⟨w5, rfl⟩ : ∃ x, x = wr := ⟨wr, rfl⟩
    obtain ⟨k, hk, rfl, hs, hbr⟩ := hrel
    have lw := hbr.size
    by_cases hlt : k < n
    · have j1 : (k : Int) < (n : Int) := by omega
      obtain ⟨b1, off, x, hA, hb1, e0, e1, e2, hbi, hxm, -, hxd⟩ := img_at (HI.out.h.below hbr) (HI.out.i.below hbr) (show k < t.iv.rs.length by rw [show t.iv.rs.length = n from HN.out]; exact hlt)
      obtain ⟨c, hc⟩ := bool_is (Ok z d s l a ∧ ImOk z d x.z x.wh x.l)
      have HIM := Lib.hid (show ∀ W, Below w5.heap.size w5 W → Calls Tryd.prog 44 #[.agg #[.int .i64 z, .int .i64 d, .int .i64 s, .int .i64 l, .int .i64 a], .agg #[.int .i64 x.z, .int .i64 x.wh, .slice x.A x.l.length x.c]] W fun e w' => e = .returned (.int .i64 (if c = true then 0 else 1)) ∧ Below W.heap.size W w' from fun W hW => image_c c z d s l a x x.l.length W ((hbi.more lw).next hW) rfl (HSH.out x hxm) hc)
      have HC := Lib.hid hc
      have HXD := Lib.hid (show (ids t.rs)[k]? = some (x.z, x.wh, x.l) from hxd)
      have HS := Lib.hid hs
      rw [show t.A = some ⟨b1, off, none⟩ from hA]
      clear hA hbi hxm hxd hc hs
      obtain ⟨g0, g1, g2, g3, g4⟩ := HMG.out w5 hbr
      go_upto_region 6 with fail
      have X5 := anc.tri_new w5 (.int .i64 x.z) (.int .i64 x.wh) (.slice x.A x.l.length x.c) 56
      have h6 := bl w5 (.cells #[.int .i64 x.z, .int .i64 x.wh, .slice x.A x.l.length x.c] 56)
      obtain ⟨f0, f1, f2, f3, f4⟩ := HMG.out _ (hbr.trans (h6.mono lw))
      clear g0 g1 g2 g3 g4 e0 e1 e2
      generalize w5.alloc (.cells #[.int .i64 x.z, .int .i64 x.wh, .slice x.A x.l.length x.c] 56) = w6 at *
      have y0 := X5.c0
      have y1 := X5.c1
      have y2 := X5.c2
      cases c
      · have H : Hid (b = false) := Lib.hid (bool_no HB2.out fun h => absurd (HC.out.2 ⟨HO.out, h (x.z, x.wh, x.l) (List.mem_of_getElem? HXD.out)⟩) Bool.false_ne_true)
        replace HIM : Hid (∀ W, Below w5.heap.size w5 W → Calls Tryd.prog 44 #[.agg #[.int .i64 z, .int .i64 d, .int .i64 s, .int .i64 l, .int .i64 a], .agg #[.int .i64 x.z, .int .i64 x.wh, .slice x.A x.l.length x.c]] W fun e w' => e = .returned (.int .i64 1) ∧ Below W.heap.size W w') := HIM
        go_wp2_with (go_at_call 44; (with_reducible refine (HIM.out _ h6).mono ?_); rintro e w7 ⟨rfl, hb7⟩)
        go_ret
        exact ⟨ret_bool H.out.symm, bt hw (hbr.trans ((h6.trans (hb7.mono h6.size)).mono lw))⟩
      · replace HIM : Hid (∀ W, Below w5.heap.size w5 W → Calls Tryd.prog 44 #[.agg #[.int .i64 z, .int .i64 d, .int .i64 s, .int .i64 l, .int .i64 a], .agg #[.int .i64 x.z, .int .i64 x.wh, .slice x.A x.l.length x.c]] W fun e w' => e = .returned (.int .i64 0) ∧ Below W.heap.size W w') := HIM
        go_wp2_with (go_at_call 44; (with_reducible refine (HIM.out _ h6).mono ?_); rintro e w7 ⟨rfl, hb7⟩)
        go_roundw
        case rel => exact ⟨k + 1, by omega, by go_num, fun y hy => by
          rw [List.take_add_one, HXD.out] at hy
          rcases List.mem_append.1 hy with q | q
          · exact HS.out y q
          · obtain rfl := List.mem_singleton.1 q
            exact (HC.out.1 (by first | rfl | trivial)).2, hbr.trans ((h6.trans (hb7.mono h6.size)).mono lw)⟩
        case measure => simp [RowKit.intOf]; omega
    · have j1 : ¬ (k : Int) < (n : Int) := by omega
      obtain rfl : k = n := by omega
      have H : Hid (b = true) := Lib.hid (HB2.out.2 fun y hy => hs y (by rw [List.take_of_length_le (by rw [ids_length, HN.out]; exact Nat.le_refl _)]; exact hy))
      clear hs
      go_wp2_with fail
      go_ret
      exact ⟨ret_bool H.out.symm, bt hw hbr⟩
end Go.Proofs.YtalmimmcfjolkaaDoor.rng

namespace Go.Proofs.YtalmimmcfjolkaaDoor.rng
open Go.RowKit Go.Lib
open Go.Proofs.YtalmimmcfjolkaaDoor.gmt (Ok)
open Go.Proofs.YtalmimmcfjolkaaDoor.anc (AV AC ac_new bl kal kst ks bm ka errC)
open Go.Proofs.YtalmimmcfjolkaaDoor.lbl (ValidOk Tabs)
open Go.Proofs.YtalmimmcfjolkaaDoor.tbl (G5 g5_new)
open Go.Proofs.YtalmimmcfjolkaaDoor.lrc (C4 c4_new bool_is bool_no ImOk ImsOk)
open Go.Proofs.YtalmimmcfjolkaaDoor.img

/-- What end answers: the place and the number behind the last one, or why not. -/
def EndR (c : Bool) (p q : Int) (e : Ending) : Prop := (c = true ∧ e = .returned (.tuple #[.int .i64 p, .int .i64 q, .int .i64 0])) ∨ (c = false ∧ e = .returned (.tuple #[.int .i64 0, .int .i64 0, .int .i64 1]))
theorem drop_consT {l : List Txd} {k : Nat} {y : Txd} (h : l[k]? = some y) : l.drop k = y :: l.drop (k + 1) := by
  obtain ⟨hk, rfl⟩ := List.getElem?_eq_some_iff.1 h
  exact List.drop_eq_getElem_cons hk
set_option maxRecDepth 100000 in
set_option maxHeartbeats 8000000 in
theorem end_bad (hV : lbl.ValidOk) (z d s l a : Int) (x : AV) (tA : Option Addr) (tc n : Nat) (w : World) (hT : lbl.Tabs w) (ho : Ok z d s l a) (hx : x.In w w.heap.size) (hlab : x.lab.size ≤ 4294967295) (hg : ¬ anc.Good z d s l x.d) :
    Calls Tryd.prog 23 #[.agg #[.int .i64 z, .int .i64 d, .int .i64 s, .int .i64 l, .int .i64 a], .agg #[.int .i64 x.gen, .int .i64 x.ep, .int .i64 x.pos, .int .i64 x.seq, .int .i64 x.last, .string x.lab, .slice x.HA x.hs.length x.hc], .slice tA n tc] w fun e w' => EndR false 0 0 e ∧ Below w.heap.size w w' := by
  have cC := fun W (hW : Below w.heap.size w W) => anc.check_p hV z d s l a false x W (anc.tn hT hW) ho (hx.next hW) (by omega) (iff_of_false Bool.false_ne_true hg)
  unfold AV.v at *
  have GG := (g5_new w z d s l a).keep (bl (w.alloc (.cells #[.int .i64 z, .int .i64 d, .int .i64 s, .int .i64 l, .int .i64 a] 23)) (.cells #[.int .i64 x.gen, .int .i64 x.ep, .int .i64 x.pos, .int .i64 x.seq, .int .i64 x.last, .string x.lab, .slice x.HA x.hs.length x.hc] 26)) (by simp)
  have FF := ac_new (w.alloc (.cells #[.int .i64 z, .int .i64 d, .int .i64 s, .int .i64 l, .int .i64 a] 23)) x
  have hb0 := kal (bl w (.cells #[.int .i64 z, .int .i64 d, .int .i64 s, .int .i64 l, .int .i64 a] 23)) (.cells #[.int .i64 x.gen, .int .i64 x.ep, .int .i64 x.pos, .int .i64 x.seq, .int .i64 x.last, .string x.lab, .slice x.HA x.hs.length x.hc] 26)
  rw [show (w.alloc (.cells #[.int .i64 z, .int .i64 d, .int .i64 s, .int .i64 l, .int .i64 a] 23)).heap.size = w.heap.size + 1 by simp] at FF
  clear hx ho hg
  go_enter Tryd.func23, Tryd.ntmps23
  go_upto_region 1 with fail
  generalize (w.alloc (.cells #[.int .i64 z, .int .i64 d, .int .i64 s, .int .i64 l, .int .i64 a] 23)).alloc (.cells #[.int .i64 x.gen, .int .i64 x.ep, .int .i64 x.pos, .int .i64 x.seq, .int .i64 x.last, .string x.lab, .slice x.HA x.hs.length x.hc] 26) = w0 at *
  obtain ⟨c0, c1, c2, c3, c4, c5, c6⟩ := id FF
  obtain ⟨g0, g1, g2, g3, g4⟩ := id GG
  go_wp2_with (go_at_call 35; (with_reducible refine (cC _ hb0).mono ?_); rintro e wq ⟨rfl, hbq⟩)
  go_ret3
  exact ⟨.inr ⟨rfl, rfl⟩, bt hb0 hbq⟩
set_option maxRecDepth 100000 in
set_option maxHeartbeats 8000000 in
theorem end_c (hV : lbl.ValidOk) (c : Bool) (z d s l a : Int) (x : AV) (t : XV) (n : Nat) (w : World) (hT : lbl.Tabs w) (ho : Ok z d s l a) (hx : x.In w w.heap.size) (hlab : x.lab.size ≤ 4294967295) (hg : anc.Good z d s l x.d) (ht : t.In w w.heap.size) (hn : t.ts.length = n) (hn1 : n ≤ 1048576) (hsh : TShort 1048576 t.ts) (hc : c = true ↔ LogOk z d l x.pos x.seq 0 (tds t.ts)) :
    Calls Tryd.prog 23 #[.agg #[.int .i64 z, .int .i64 d, .int .i64 s, .int .i64 l, .int .i64 a], .agg #[.int .i64 x.gen, .int .i64 x.ep, .int .i64 x.pos, .int .i64 x.seq, .int .i64 x.last, .string x.lab, .slice x.HA x.hs.length x.hc], .slice t.A n t.c] w fun e w' => EndR c ((x.pos + usedN (tds t.ts)) % l) (x.seq + n) e ∧ Below w.heap.size w w' := by
  have cC : ∀ W, Below w.heap.size w W → Calls Tryd.prog 35 #[.agg #[.int .i64 z, .int .i64 d, .int .i64 s, .int .i64 l, .int .i64 a], .agg #[.int .i64 x.gen, .int .i64 x.ep, .int .i64 x.pos, .int .i64 x.seq, .int .i64 x.last, .string x.lab, .slice x.HA x.hs.length x.hc]] W fun e w' => e = .returned (.int .i64 0) ∧ Below W.heap.size W w' := fun W hW => anc.check_p hV z d s l a true x W (anc.tn hT hW) ho (hx.next hW) (by omega) (iff_of_true rfl hg)
  have hpos : 0 ≤ x.pos ∧ x.pos ≤ l - 1 := hg.2.2.2.2.2.1
  have hsq : 1 ≤ x.seq ∧ x.seq ≤ 4294967295 := hg.2.2.1
  have hl : 14 ≤ l ∧ l ≤ 30 := ho.2.2.2.1
  unfold AV.v at *
  have GG := (g5_new w z d s l a).keep (bl (w.alloc (.cells #[.int .i64 z, .int .i64 d, .int .i64 s, .int .i64 l, .int .i64 a] 23)) (.cells #[.int .i64 x.gen, .int .i64 x.ep, .int .i64 x.pos, .int .i64 x.seq, .int .i64 x.last, .string x.lab, .slice x.HA x.hs.length x.hc] 26)) (by simp)
  have FF := ac_new (w.alloc (.cells #[.int .i64 z, .int .i64 d, .int .i64 s, .int .i64 l, .int .i64 a] 23)) x
  have hb0 := kal (bl w (.cells #[.int .i64 z, .int .i64 d, .int .i64 s, .int .i64 l, .int .i64 a] 23)) (.cells #[.int .i64 x.gen, .int .i64 x.ep, .int .i64 x.pos, .int .i64 x.seq, .int .i64 x.last, .string x.lab, .slice x.HA x.hs.length x.hc] 26)
  rw [show (w.alloc (.cells #[.int .i64 z, .int .i64 d, .int .i64 s, .int .i64 l, .int .i64 a] 23)).heap.size = w.heap.size + 1 by simp] at FF
  have l1 : w.heap.size + 1 < ((w.alloc (.cells #[.int .i64 z, .int .i64 d, .int .i64 s, .int .i64 l, .int .i64 a] 23)).alloc (.cells #[.int .i64 x.gen, .int .i64 x.ep, .int .i64 x.pos, .int .i64 x.seq, .int .i64 x.last, .string x.lab, .slice x.HA x.hs.length x.hc] 26)).heap.size := by simp
  have HT0 := Lib.hid (ht.next hb0)
  have HN := Lib.hid hn
  have HO := Lib.hid ho
  have HSH := Lib.hid hsh
  have HC := Lib.hid hc
  obtain ⟨P, hP⟩ : ∃ P, P = (x.pos + usedN (tds t.ts)) % l := ⟨_, rfl⟩
  rw [← hP]
  have HP := Lib.hid hP
  clear hx ho hg ht hn hsh hc hP
  go_enter Tryd.func23, Tryd.ntmps23
  go_upto_region 1 with fail
  generalize (w.alloc (.cells #[.int .i64 z, .int .i64 d, .int .i64 s, .int .i64 l, .int .i64 a] 23)).alloc (.cells #[.int .i64 x.gen, .int .i64 x.ep, .int .i64 x.pos, .int .i64 x.seq, .int .i64 x.last, .string x.lab, .slice x.HA x.hs.length x.hc] 26) = w0 at *
  obtain ⟨c0, c1, c2, c3, c4, c5, c6⟩ := id FF
  obtain ⟨g0, g1, g2, g3, g4⟩ := id GG
  go_upto_region 4 with (go_at_call 35; (with_reducible refine (cC _ hb0).mono ?_); rintro e w1 ⟨rfl, hbq⟩)
  clear cC
  have G1 := GG.keep hbq (by omega)
  have F1 := FF.keep hbq (by omega)
  have HT1 := Lib.hid (HT0.out.next hbq)
  have hb1 := bt hb0 hbq
  replace l1 := Nat.lt_of_lt_of_le l1 hbq.size
  clear c0 c1 c2 c3 c4 c5 c6 g0 g1 g2 g3 g4 GG FF HT0 hb0 hbq
  obtain ⟨c0, c1, c2, c3, c4, c5, c6⟩ := id F1
  obtain ⟨g0, g1, g2, g3, g4⟩ := id G1
  go_quiet (fail)
  go_upto_region 7 with fail
  have HMG := Lib.hid (show ∀ W, Below w1.heap.size w1 W → G5 W w.heap.size z d s l a from fun W hW => G1.keep hW (by omega))
  clear c0 c1 c2 c3 c4 c5 c6 g0 g1 g2 g3 g4 G1 F1
  go_loopw [6, 7, 10, 27] (fun p q o i w' => ∃ (k : Nat) (ps us : Int), k ≤ n ∧ i = .int .i64 k ∧ p = .int .i64 ps ∧ q = .int .i64 (x.seq + k) ∧ o = .int .i64 (l - us) ∧ (0 ≤ ps ∧ ps ≤ l - 1) ∧ (0 ≤ us ∧ us ≤ l) ∧ ps = (x.pos + us) % l ∧ (c = true ↔ LogOk z d l ps (x.seq + k) us ((tds t.ts).drop k)) ∧ (c = true → usedN (tds t.ts) = us + usedN ((tds t.ts).drop k)) ∧ Below w1.heap.size w1 w') (fun _ _ _ i _ => n - (RowKit.intOf i).toNat)
  case atStart => exact ⟨0, x.pos, 0, by omega, rfl, rfl, by go_num, by go_num, hpos, by omega, by rw [Int.add_zero]; exact (Int.emod_eq_of_lt hpos.1 (by omega)).symm, by rw [show x.seq + ((0 : Nat) : Int) = x.seq by omega]; exact HC.out, fun _ => by rw [Int.zero_add]; rfl, below_dn (Below.refl _ _) _⟩
  case round =>
    obtain ⟨w5, rfl⟩ : ∃ x, x = wr := ⟨wr, rfl⟩
    obtain ⟨k, ps, us, hk, rfl, rfl, rfl, rfl, hps, hus, hpu, hck, hck2, hbr⟩ := hrel
    have lw := hbr.size
    have HPU := Lib.hid hpu
    have HCK := Lib.hid hck
    have HCU := Lib.hid hck2
    clear hpu hck hck2
    by_cases hlt : k < n
    · have j1 : (k : Int) < (n : Int) := by omega
      obtain ⟨b1, off, r, hA, hb1', e0, e1, e2, e3, hiv, hrm, hr, hrd⟩ := txn_at (HT1.out.h.below hbr) (HT1.out.i.below hbr) (show k < t.ts.length by rw [HN.out]; exact hlt)
      have HDR := Lib.hid (show (tds t.ts).drop k = r.d :: (tds t.ts).drop (k + 1) from drop_consT hrd)
      have HCX := Lib.hid (show c = true ↔ TxdOk z d ps (x.seq + k) r.d ∧ us + r.nm ≤ l ∧ LogOk z d l ((ps + r.nm) % l) (x.seq + k + 1) (us + r.nm) ((tds t.ts).drop (k + 1)) from HCK.out.trans (by rw [HDR.out]; exact Iff.rfl))
      obtain ⟨s1, s2⟩ := HSH.out r hrm
      obtain ⟨b, hb⟩ := bool_is ((2 ≤ r.nm ∧ r.nm ≤ l - us) ∧ r.nm = (r.rs.length : Int) + 1 ∧ ImsOk z d (ids r.rs))
      have HTX := Lib.hid (show ∀ W, Below w5.heap.size w5 W → Calls Tryd.prog 36 #[.agg #[.int .i64 z, .int .i64 d, .int .i64 s, .int .i64 l, .int .i64 a], .agg #[.int .i64 r.sq, .int .i64 r.ps, .int .i64 r.nm, .slice r.A r.rs.length r.c], .int .i64 (l - us)] W fun e w' => e = .returned (.bool b) ∧ Below W.heap.size W w' from fun W hW => txnR_c b z d s l a r r.rs.length (l - us) W HO.out ((hiv.more lw).next hW) rfl s1 s2 hb)
      have HB := Lib.hid hb
      have HRD := Lib.hid hrd
      rw [hA]
      clear hA hiv hrm hr hrd hb s1 s2 HCK HDR
      obtain ⟨g0, g1, g2, g3, g4⟩ := HMG.out w5 hbr
      go_upto_region 9 with fail
      have X5 := c4_new w5 (.int .i64 r.sq) (.int .i64 r.ps) (.int .i64 r.nm) (.slice r.A r.rs.length r.c) 40
      have h6 := bl w5 (.cells #[.int .i64 r.sq, .int .i64 r.ps, .int .i64 r.nm, .slice r.A r.rs.length r.c] 40)
      have l6 : w5.heap.size < (w5.alloc (.cells #[.int .i64 r.sq, .int .i64 r.ps, .int .i64 r.nm, .slice r.A r.rs.length r.c] 40)).heap.size := by simp
      obtain ⟨f0, f1, f2, f3, f4⟩ := HMG.out _ (hbr.trans (h6.mono lw))
      clear g0 g1 g2 g3 g4 e0 e1 e2 e3
      have G6 := HMG.out _ (hbr.trans (h6.mono lw))
      generalize w5.alloc (.cells #[.int .i64 r.sq, .int .i64 r.ps, .int .i64 r.nm, .slice r.A r.rs.length r.c] 40) = w6 at *
      obtain ⟨y0, y1, y2, y3⟩ := id X5
      by_cases q1 : 4294967295 < x.seq + (k : Int)
      · have H : Hid (c = false) := Lib.hid (bool_no HCX.out fun h => by have := h.1.2.1; omega)
        go_wp2_with fail
        go_ret3
        exact ⟨.inr ⟨H.out, rfl⟩, bt hb1 (hbr.trans (h6.mono lw))⟩
      by_cases q2 : r.sq = x.seq + (k : Int)
      case neg =>
        have H : Hid (c = false) := Lib.hid (bool_no HCX.out fun h => q2 h.1.1)
        have q3 : (r.sq != x.seq + (k : Int)) = true := bne_iff_ne.2 q2
        clear q2
        go_wp2_with fail
        go_ret3
        exact ⟨.inr ⟨H.out, rfl⟩, bt hb1 (hbr.trans (h6.mono lw))⟩
      have q3 : (r.sq != x.seq + (k : Int)) = false := by rw [q2]; exact bne_self_eq_false _
      have HQ2 := Lib.hid q2
      clear q2
      by_cases q4 : r.ps = ps
      case neg =>
        have H : Hid (c = false) := Lib.hid (bool_no HCX.out fun h => q4 h.1.2.2.1)
        have q5 : (r.ps != ps) = true := bne_iff_ne.2 q4
        clear q4
        go_wp2_with fail
        go_ret3
        exact ⟨.inr ⟨H.out, rfl⟩, bt hb1 (hbr.trans (h6.mono lw))⟩
      have q5 : (r.ps != ps) = false := by rw [q4]; exact bne_self_eq_false _
      have HQ4 := Lib.hid q4
      clear q4
      cases b
      · have H : Hid (c = false) := Lib.hid (bool_no HCX.out fun h => absurd (HB.out.2 ⟨⟨h.1.2.2.2.2.1, by have := h.2.1; omega⟩, by
          have h9 := h.1.2.2.2.1
          rw [show r.d.ims.length = r.rs.length from ids_length r.rs] at h9
          exact h9, h.1.2.2.2.2.2⟩) Bool.false_ne_true)
        go_wp2_with (go_at_call 36; (with_reducible refine (HTX.out _ h6).mono ?_); rintro e w7 ⟨rfl, hb7⟩)
        go_ret3
        exact ⟨.inr ⟨H.out, rfl⟩, bt hb1 (hbr.trans ((h6.trans (hb7.mono h6.size)).mono lw))⟩
      · have hbt := HB.out.1 rfl
        have hnm : 2 ≤ r.nm ∧ r.nm ≤ l - us := hbt.1
        have HCY := Lib.hid (show c = true ↔ LogOk z d l ((ps + r.nm) % l) (x.seq + k + 1) (us + r.nm) ((tds t.ts).drop (k + 1)) from HCX.out.trans ⟨fun h => h.2.2, fun h => ⟨⟨HQ2.out, by omega, HQ4.out, by
          show r.nm = ((ids r.rs).length : Int) + 1
          rw [ids_length]
          exact hbt.2.1, hnm.1, hbt.2.2⟩, by omega, h⟩⟩)
        clear hbt
        obtain ⟨pn, hpn⟩ : ∃ q, (ps + r.nm) % l = q := ⟨_, rfl⟩
        have hpn1 : 0 ≤ pn ∧ pn < l := by rw [← hpn]; exact ⟨Int.emod_nonneg _ (by omega), Int.emod_lt_of_pos _ (by omega)⟩
        have HPN := Lib.hid hpn
        have HAR := Lib.hid (show ∀ W, Calls Tryd.prog 27 #[.agg #[.int .i64 z, .int .i64 d, .int .i64 s, .int .i64 l, .int .i64 a], .int .i64 (ps + r.nm)] W fun e w' => e = .returned (.int .i64 pn) ∧ Below W.heap.size W w' from fun W => aroundR_c z d s l a (ps + r.nm) pn W HO.out (by omega) (by rw [← hpn]; exact Int.add_emod_right ..))
        clear hpn
        have v1 : IntKind.i64.wrap (l - us - r.nm) = l - us - r.nm := IntWalk.i64_in _ (by omega)
        have v2 : IntKind.i64.wrap (ps + r.nm) = ps + r.nm := IntWalk.i64_in _ (by omega)
        have v3 : IntKind.i64.wrap (x.seq + (k : Int) + 1) = x.seq + (k : Int) + 1 := IntWalk.i64_in _ (by omega)
        go_wp2_with (first
          | (go_at_call 36; (with_reducible refine (HTX.out _ h6).mono ?_); rintro e w7 ⟨rfl, hb7⟩; (replace X5 := X5.keep hb7 l6); (clear y0 y1 y2 y3 f0 f1 f2 f3 f4); obtain ⟨y0, y1, y2, y3⟩ := id X5; (obtain ⟨f0, f1, f2, f3, f4⟩ := HMG.out w7 (hbr.trans ((h6.trans (hb7.mono h6.size)).mono lw))))
          | (go_at_call 27; (with_reducible refine (HAR.out _).mono ?_); rintro e w8 ⟨rfl, hb8⟩)
          | fail)
        go_roundw
        case rel => exact ⟨k + 1, pn, us + r.nm, by omega, by go_num, rfl, by go_num, by go_num, by omega, by omega, by
          rw [← HPN.out, HPU.out, Int.emod_add_emod]
          congr 1
          omega, by
          rw [HPN.out] at HCY
          rw [show x.seq + ((k + 1 : Nat) : Int) = x.seq + (k : Int) + 1 by omega]
          exact HCY.out, fun hct => by
          rw [HCU.out hct, drop_consT HRD.out, usedN_cons, useN, if_pos (show 0 ≤ r.d.nm ∧ r.d.nm ≤ 30 from ⟨by show 0 ≤ r.nm; omega, by show r.nm ≤ 30; omega⟩)]
          show us + (r.nm + _) = us + r.nm + _
          omega, hbr.trans ((h6.trans ((bt hb7 hb8).mono h6.size)).mono lw)⟩
        case measure => simp [RowKit.intOf]; omega
    · have j1 : ¬ (k : Int) < (n : Int) := by omega
      obtain rfl : k = n := by omega
      have hnil : (tds t.ts).drop k = [] := List.drop_eq_nil_of_le (by rw [tds_length, HN.out]; exact Nat.le_refl _)
      have H : Hid (c = true) := Lib.hid (HCK.out.2 (by rw [hnil]; exact trivial))
      have HPP := Lib.hid (show ps = P by
        have h9 := HCU.out H.out
        rw [hnil] at h9
        rw [HP.out, h9, HPU.out, show usedN [] = 0 from rfl, Int.add_zero])
      clear hnil
      go_wp2_with fail
      go_ret3
      exact ⟨.inl ⟨H.out, by rw [← HPP.out]; rfl⟩, bt hb1 hbr⟩
set_option maxRecDepth 100000 in
set_option maxHeartbeats 8000000 in
theorem checkR_c (hV : lbl.ValidOk) (c : Bool) (z d s l a : Int) (x : AV) (t : XV) (n : Nat) (w : World) (hT : lbl.Tabs w) (ho : Ok z d s l a) (hx : x.In w w.heap.size) (hlab : x.lab.size ≤ 4294967295) (ht : t.In w w.heap.size) (hn : t.ts.length = n) (hn1 : n ≤ 1048576) (hsh : TShort 1048576 t.ts) (hc : c = true ↔ anc.Good z d s l x.d ∧ LogOk z d l x.pos x.seq 0 (tds t.ts)) :
    Calls Tryd.prog 10 #[.agg #[.int .i64 z, .int .i64 d, .int .i64 s, .int .i64 l, .int .i64 a], .agg #[.int .i64 x.gen, .int .i64 x.ep, .int .i64 x.pos, .int .i64 x.seq, .int .i64 x.last, .string x.lab, .slice x.HA x.hs.length x.hc], .slice t.A n t.c] w fun e w' => e = .returned (.int .i64 (if c = true then 0 else 1)) ∧ Below w.heap.size w w' := by
  obtain ⟨p, q, hE⟩ : ∃ p q : Int, ∀ W, Below w.heap.size w W → Calls Tryd.prog 23 #[.agg #[.int .i64 z, .int .i64 d, .int .i64 s, .int .i64 l, .int .i64 a], .agg #[.int .i64 x.gen, .int .i64 x.ep, .int .i64 x.pos, .int .i64 x.seq, .int .i64 x.last, .string x.lab, .slice x.HA x.hs.length x.hc], .slice t.A n t.c] W fun e w' => EndR c p q e ∧ Below W.heap.size W w' := by
    by_cases hg : anc.Good z d s l x.d
    · exact ⟨_, _, fun W hW => end_c hV c z d s l a x t n W (anc.tn hT hW) ho (hx.next hW) hlab hg (ht.next hW) hn hn1 hsh (hc.trans (and_iff_right hg))⟩
    · obtain rfl : c = false := bool_no hc fun h => hg h.1
      exact ⟨0, 0, fun W hW => end_bad hV z d s l a x t.A t.c n W (anc.tn hT hW) ho (hx.next hW) hlab hg⟩
  have HE := Lib.hid hE
  have GG := (g5_new w z d s l a).keep (bl (w.alloc (.cells #[.int .i64 z, .int .i64 d, .int .i64 s, .int .i64 l, .int .i64 a] 23)) (.cells #[.int .i64 x.gen, .int .i64 x.ep, .int .i64 x.pos, .int .i64 x.seq, .int .i64 x.last, .string x.lab, .slice x.HA x.hs.length x.hc] 26)) (by simp)
  have FF := ac_new (w.alloc (.cells #[.int .i64 z, .int .i64 d, .int .i64 s, .int .i64 l, .int .i64 a] 23)) x
  have hb0 := kal (bl w (.cells #[.int .i64 z, .int .i64 d, .int .i64 s, .int .i64 l, .int .i64 a] 23)) (.cells #[.int .i64 x.gen, .int .i64 x.ep, .int .i64 x.pos, .int .i64 x.seq, .int .i64 x.last, .string x.lab, .slice x.HA x.hs.length x.hc] 26)
  rw [show (w.alloc (.cells #[.int .i64 z, .int .i64 d, .int .i64 s, .int .i64 l, .int .i64 a] 23)).heap.size = w.heap.size + 1 by simp] at FF
  clear hE hx ht hc hsh ho hn
  go_enter Tryd.func10, Tryd.ntmps10
  go_upto_region 1 with fail
  generalize (w.alloc (.cells #[.int .i64 z, .int .i64 d, .int .i64 s, .int .i64 l, .int .i64 a] 23)).alloc (.cells #[.int .i64 x.gen, .int .i64 x.ep, .int .i64 x.pos, .int .i64 x.seq, .int .i64 x.last, .string x.lab, .slice x.HA x.hs.length x.hc] 26) = w0 at *
  obtain ⟨c0, c1, c2, c3, c4, c5, c6⟩ := id FF
  obtain ⟨g0, g1, g2, g3, g4⟩ := id GG
  cases c
  · go_wp2_with (go_at_call 23; (with_reducible refine (HE.out _ hb0).mono ?_); rintro e w2 ⟨h2, hb2⟩; (obtain rfl := (h2.resolve_left fun h => absurd h.1 Bool.false_ne_true).2); clear h2)
    go_ret
    exact ⟨rfl, bt hb0 hb2⟩
  · go_wp2_with (go_at_call 23; (with_reducible refine (HE.out _ hb0).mono ?_); rintro e w2 ⟨h2, hb2⟩; (obtain rfl := (h2.resolve_right fun h => absurd h.1.symm Bool.false_ne_true).2); clear h2)
    go_ret
    exact ⟨rfl, bt hb0 hb2⟩
set_option maxRecDepth 100000 in
set_option maxHeartbeats 8000000 in
theorem nextR_c (hV : lbl.ValidOk) (z d s l a : Int) (x : AV) (t : XV) (n : Nat) (w : World) (hT : lbl.Tabs w) (ho : Ok z d s l a) (hx : x.In w w.heap.size) (hlab : x.lab.size ≤ 4294967295) (ht : t.In w w.heap.size) (hn : t.ts.length = n) (hn1 : n ≤ 1048576) (hsh : TShort 1048576 t.ts) (hg : anc.Good z d s l x.d) (hL : LogOk z d l x.pos x.seq 0 (tds t.ts)) (hq : x.seq + n ≤ 4294967295) :
    Calls Tryd.prog 12 #[.agg #[.int .i64 z, .int .i64 d, .int .i64 s, .int .i64 l, .int .i64 a], .agg #[.int .i64 x.gen, .int .i64 x.ep, .int .i64 x.pos, .int .i64 x.seq, .int .i64 x.last, .string x.lab, .slice x.HA x.hs.length x.hc], .slice t.A n t.c] w fun e w' => e = .returned (.tuple #[.int .i64 ((x.pos + usedN (tds t.ts)) % l), .int .i64 (x.seq + n), .int .i64 0]) ∧ Below w.heap.size w w' := by
  have hE := fun W (hW : Below w.heap.size w W) => end_c hV true z d s l a x t n W (anc.tn hT hW) ho (hx.next hW) hlab hg (ht.next hW) hn hn1 hsh (iff_of_true rfl hL)
  have HE := Lib.hid hE
  generalize (x.pos + usedN (tds t.ts)) % l = P at *
  generalize x.seq + (n : Int) = Q at *
  have GG := (g5_new w z d s l a).keep (bl (w.alloc (.cells #[.int .i64 z, .int .i64 d, .int .i64 s, .int .i64 l, .int .i64 a] 23)) (.cells #[.int .i64 x.gen, .int .i64 x.ep, .int .i64 x.pos, .int .i64 x.seq, .int .i64 x.last, .string x.lab, .slice x.HA x.hs.length x.hc] 26)) (by simp)
  have FF := ac_new (w.alloc (.cells #[.int .i64 z, .int .i64 d, .int .i64 s, .int .i64 l, .int .i64 a] 23)) x
  have hb0 := kal (bl w (.cells #[.int .i64 z, .int .i64 d, .int .i64 s, .int .i64 l, .int .i64 a] 23)) (.cells #[.int .i64 x.gen, .int .i64 x.ep, .int .i64 x.pos, .int .i64 x.seq, .int .i64 x.last, .string x.lab, .slice x.HA x.hs.length x.hc] 26)
  rw [show (w.alloc (.cells #[.int .i64 z, .int .i64 d, .int .i64 s, .int .i64 l, .int .i64 a] 23)).heap.size = w.heap.size + 1 by simp] at FF
  have q1 : ¬ 4294967295 < Q := by omega
  clear hE hx ht hL hsh ho hn hg
  go_enter Tryd.func12, Tryd.ntmps12
  go_upto_region 1 with fail
  generalize (w.alloc (.cells #[.int .i64 z, .int .i64 d, .int .i64 s, .int .i64 l, .int .i64 a] 23)).alloc (.cells #[.int .i64 x.gen, .int .i64 x.ep, .int .i64 x.pos, .int .i64 x.seq, .int .i64 x.last, .string x.lab, .slice x.HA x.hs.length x.hc] 26) = w0 at *
  obtain ⟨c0, c1, c2, c3, c4, c5, c6⟩ := id FF
  obtain ⟨g0, g1, g2, g3, g4⟩ := id GG
  go_wp2_with (go_at_call 23; (with_reducible refine (HE.out _ hb0).mono ?_); rintro e w2 ⟨h2, hb2⟩; (obtain rfl := (h2.resolve_right fun h => absurd h.1.symm Bool.false_ne_true).2); clear h2)
  go_ret3
  exact ⟨rfl, bt hb0 hb2⟩
end Go.Proofs.YtalmimmcfjolkaaDoor.rng

namespace Go.Proofs.YtalmimmcfjolkaaDoor.rng
open Go.RowKit Go.Lib
open Go.Proofs.YtalmimmcfjolkaaDoor.gmt (Ok)
open Go.Proofs.YtalmimmcfjolkaaDoor.anc (AV AC ac_new bl kal kst ks bm ka)
open Go.Proofs.YtalmimmcfjolkaaDoor.tbl (G5 g5_new)
open Go.Proofs.YtalmimmcfjolkaaDoor.lrc (C4 c4_new bool_is bool_no ImOk ImsOk)
open Go.Proofs.YtalmimmcfjolkaaDoor.img

set_option maxRecDepth 100000 in
set_option maxHeartbeats 8000000 in
theorem usedR_c (t : XV) (n : Nat) (w : World) (ht : t.In w w.heap.size) (hn : t.ts.length = n) (hn1 : n ≤ 1048576) :
    Calls Tryd.prog 13 #[.slice t.A n t.c] w fun e w' => e = .returned (.int .i64 (usedN (tds t.ts))) ∧ Below w.heap.size w w' := by
  have HT := Lib.hid ht
  have HN := Lib.hid hn
  obtain ⟨U, hU⟩ : ∃ U, U = usedN (tds t.ts) := ⟨_, rfl⟩
  rw [← hU]
  have HU := Lib.hid hU
  clear ht hn hU
  go_enter Tryd.func13, Tryd.ntmps13
  go_upto_region 3 with fail
  go_loopw [3, 8] (fun o i w' => ∃ (k : Nat) (us : Int), k ≤ n ∧ i = .int .i64 k ∧ o = .int .i64 us ∧ (0 ≤ us ∧ us ≤ 30 * (k : Int)) ∧ U = us + usedN ((tds t.ts).drop k) ∧ Below w.heap.size w w') (fun _ i _ => n - (RowKit.intOf i).toNat)
  case atStart => exact ⟨0, 0, by omega, rfl, rfl, by omega, by rw [HU.out, Int.zero_add]; rfl, Below.refl _ _⟩
  case round =>
    obtain ⟨w5, rfl⟩ : ∃ x, x = wr := ⟨wr, rfl⟩
    obtain ⟨k, us, hk, rfl, rfl, hus, hck, hbr⟩ := hrel
    have lw := hbr.size
    have HCK := Lib.hid hck
    clear hck
    by_cases hlt : k < n
    · have j1 : (k : Int) < (n : Int) := by omega
      obtain ⟨b1, off, r, hA, hb1', e0, e1, e2, e3, hiv, hrm, hr, hrd⟩ := txn_at (HT.out.h.below hbr) (HT.out.i.below hbr) (show k < t.ts.length by rw [HN.out]; exact hlt)
      have HDR := Lib.hid (show U = us + (useN r.d + usedN ((tds t.ts).drop (k + 1))) from by rw [HCK.out, drop_consT hrd, usedN_cons])
      obtain ⟨b, hb⟩ := bool_is (0 ≤ r.nm ∧ r.nm ≤ 30)
      have HF := Lib.hid fun W => fromR_c b r.nm 0 30 W hb
      have HB := Lib.hid (show useN r.d = if b = true then r.nm else 0 from by
        unfold useN
        by_cases h : 0 ≤ r.nm ∧ r.nm ≤ 30
        · rw [if_pos (hb.2 h)]; exact if_pos h
        · rw [if_neg (fun g => h (hb.1 g))]; exact if_neg h)
      have HB2 := Lib.hid hb
      rw [hA]
      clear hA hiv hrm hr hrd hb HCK
      go_upto_region 5 with fail
      have X5 := c4_new w5 (.int .i64 r.sq) (.int .i64 r.ps) (.int .i64 r.nm) (.slice r.A r.rs.length r.c) 40
      have h6 := bl w5 (.cells #[.int .i64 r.sq, .int .i64 r.ps, .int .i64 r.nm, .slice r.A r.rs.length r.c] 40)
      clear e0 e1 e2 e3
      generalize w5.alloc (.cells #[.int .i64 r.sq, .int .i64 r.ps, .int .i64 r.nm, .slice r.A r.rs.length r.c] 40) = w6 at *
      obtain ⟨y0, y1, y2, y3⟩ := id X5
      cases b
      · go_wp2_with (go_at_call 26; (with_reducible refine (HF.out _).mono ?_); rintro e w7 ⟨rfl, rfl⟩)
        go_roundw
        case rel => exact ⟨k + 1, us, by omega, by go_num, rfl, by omega, by
          have h9 := HDR.out
          rw [HB.out, if_neg Bool.false_ne_true, Int.zero_add] at h9
          exact h9, hbr.trans (h6.mono lw)⟩
        case measure => simp [RowKit.intOf]; omega
      · obtain ⟨m1, m2⟩ := HB2.out.1 rfl
        have v1 : IntKind.i64.wrap (us + r.nm) = us + r.nm := IntWalk.i64_in _ (by omega)
        have HX := Lib.hid (show U = us + (r.nm + usedN ((tds t.ts).drop (k + 1))) from by rw [HDR.out, HB.out]; rfl)
        go_wp2_with (go_at_call 26; (with_reducible refine (HF.out _).mono ?_); rintro e w7 ⟨rfl, rfl⟩)
        go_roundw
        case rel => exact ⟨k + 1, us + r.nm, by omega, by go_num, by go_num, by omega, by
          have h9 := HX.out
          omega, hbr.trans (h6.mono lw)⟩
        case measure => simp [RowKit.intOf]; omega
    · have j1 : ¬ (k : Int) < (n : Int) := by omega
      obtain rfl : k = n := by omega
      have H := Lib.hid (show us = U by
        have h9 := HCK.out
        rw [List.drop_eq_nil_of_le (by rw [tds_length, HN.out]; exact Nat.le_refl _), show usedN [] = 0 from rfl] at h9
        omega)
      go_wp2_with fail
      go_ret
      exact ⟨by rw [H.out]; rfl, hbr⟩
set_option maxRecDepth 100000 in
set_option maxHeartbeats 8000000 in
theorem whoR_c (z d s l a : Int) (sl : Int) (t : XV) (n : Nat) (w : World) (ho : Ok z d s l a) (h0 : 0 ≤ sl) (h1 : sl ≤ l - 1) (ht : t.In w w.heap.size) (hn : t.ts.length = n) (hn1 : n ≤ 1048576) :
    Calls Tryd.prog 11 #[.agg #[.int .i64 z, .int .i64 d, .int .i64 s, .int .i64 l, .int .i64 a], .slice t.A n t.c, .int .i64 sl] w fun e w' => e = .returned (whoE l sl (tds t.ts)) ∧ Below w.heap.size w w' := by
  have hl : 14 ≤ l ∧ l ≤ 30 := ho.2.2.2.1
  have GG := g5_new w z d s l a
  have hw := bl w (.cells #[.int .i64 z, .int .i64 d, .int .i64 s, .int .i64 l, .int .i64 a] 23)
  have lg : w.heap.size < (w.alloc (.cells #[.int .i64 z, .int .i64 d, .int .i64 s, .int .i64 l, .int .i64 a] 23)).heap.size := by simp
  have HT := Lib.hid (ht.next hw)
  have HN := Lib.hid hn
  have HO := Lib.hid ho
  have HG := Lib.hid fun W => gmt.check_ok z d s l a W ho
  have HS := Lib.hid fun W => slotR_c true z d s l a sl W ho (iff_of_true rfl ⟨h0, h1⟩)
  obtain ⟨O, hU⟩ : ∃ O, O = whoN l sl 0 (tds t.ts) := ⟨_, rfl⟩
  have HU := Lib.hid hU
  obtain ⟨E, hE⟩ : ∃ E, E = whoE l sl (tds t.ts) := ⟨_, rfl⟩
  rw [← hE]
  have HE := Lib.hid hE
  clear ht hn hU ho hE
  go_enter Tryd.func11, Tryd.ntmps11
  go_upto_region 1 with fail
  generalize w.alloc (.cells #[.int .i64 z, .int .i64 d, .int .i64 s, .int .i64 l, .int .i64 a] 23) = w0 at *
  obtain ⟨g0, g1, g2, g3, g4⟩ := id GG
  go_upto_region 4 with (first
    | (go_at_call 24; (with_reducible refine (HG.out _).mono ?_); rintro e w1 ⟨rfl, hb1⟩; (replace GG := GG.keep hb1 lg); (clear g0 g1 g2 g3 g4); obtain ⟨g0, g1, g2, g3, g4⟩ := id GG)
    | (go_at_call 25; (with_reducible refine (HS.out _).mono ?_); rintro e w2 ⟨rfl, hb2⟩)
    | fail)
  have hb12 := bt hb1 hb2
  have HT1 := Lib.hid (HT.out.next hb12)
  replace GG := GG.keep hb2 (Nat.lt_of_lt_of_le lg hb1.size)
  replace hw := bt hw hb12
  have lg2 := Nat.lt_of_lt_of_le lg hb12.size
  have HMG := Lib.hid (show ∀ W, Below w2.heap.size w2 W → G5 W w.heap.size z d s l a from fun W hW => GG.keep hW (by omega))
  clear g0 g1 g2 g3 g4 GG hb1 hb2 hb12 HT lg
  go_loopw [23] (fun i w' => ∃ (k : Nat), k ≤ n ∧ i = .int .i64 k ∧ O = whoN l sl k ((tds t.ts).drop k) ∧ Below w2.heap.size w2 w') (fun i _ => n - (RowKit.intOf i).toNat)
  case atStart => exact ⟨0, by omega, rfl, by rw [HU.out]; rfl, Below.refl _ _⟩
  case round =>
    obtain ⟨w5, rfl⟩ : ∃ x, x = wr := ⟨wr, rfl⟩
    obtain ⟨k, hk, rfl, hck, hbr⟩ := hrel
    have lw := hbr.size
    have HCK := Lib.hid hck
    clear hck
    by_cases hlt : k < n
    · have j1 : (k : Int) < (n : Int) := by omega
      obtain ⟨b1, off, r, hA, hb1', e0, e1, e2, e3, hiv, hrm, hr, hrd⟩ := txn_at (HT1.out.h.below hbr) (HT1.out.i.below hbr) (show k < t.ts.length by rw [HN.out]; exact hlt)
      have HDR := Lib.hid (show O = if has l sl r.d then some (k, (sl - r.ps + l) % l) else whoN l sl (k + 1) ((tds t.ts).drop (k + 1)) from by rw [HCK.out, drop_consT hrd]; rfl)
      obtain ⟨b, hb⟩ := bool_is (0 ≤ r.ps ∧ r.ps ≤ l - 1)
      obtain ⟨c, hc⟩ := bool_is (0 ≤ r.nm ∧ r.nm ≤ l)
      have HF := Lib.hid fun W => slotR_c b z d s l a r.ps W HO.out hb
      have HF2 := Lib.hid fun W => fromR_c c r.nm 0 l W hc
      have HB := Lib.hid hb
      have HC := Lib.hid hc
      rw [hA]
      clear hA hiv hrm hr hrd hb hc HCK
      obtain ⟨g0, g1, g2, g3, g4⟩ := HMG.out w5 hbr
      go_upto_region 6 with fail
      have X5 := c4_new w5 (.int .i64 r.sq) (.int .i64 r.ps) (.int .i64 r.nm) (.slice r.A r.rs.length r.c) 40
      have h6 := bl w5 (.cells #[.int .i64 r.sq, .int .i64 r.ps, .int .i64 r.nm, .slice r.A r.rs.length r.c] 40)
      have l6 : w5.heap.size < (w5.alloc (.cells #[.int .i64 r.sq, .int .i64 r.ps, .int .i64 r.nm, .slice r.A r.rs.length r.c] 40)).heap.size := by simp
      obtain ⟨f0, f1, f2, f3, f4⟩ := HMG.out _ (hbr.trans (h6.mono lw))
      clear g0 g1 g2 g3 g4 e0 e1 e2 e3
      generalize w5.alloc (.cells #[.int .i64 r.sq, .int .i64 r.ps, .int .i64 r.nm, .slice r.A r.rs.length r.c] 40) = w6 at *
      obtain ⟨y0, y1, y2, y3⟩ := id X5
      cases b
      · have H := Lib.hid (show O = whoN l sl (k + 1) ((tds t.ts).drop (k + 1)) by rw [HDR.out]; exact if_neg fun h => absurd (HB.out.2 h.1) Bool.false_ne_true)
        go_wp2_with (go_at_call 25; (with_reducible refine (HF.out _).mono ?_); rintro e w7 ⟨rfl, hb7⟩)
        go_roundw
        case rel => exact ⟨k + 1, by omega, by go_num, H.out, hbr.trans ((h6.trans (hb7.mono h6.size)).mono lw)⟩
        case measure => simp [RowKit.intOf]; omega
      obtain ⟨m1, m2⟩ := HB.out.1 rfl
      cases c
      · have H := Lib.hid (show O = whoN l sl (k + 1) ((tds t.ts).drop (k + 1)) by rw [HDR.out]; exact if_neg fun h => absurd (HC.out.2 h.2.1) Bool.false_ne_true)
        go_wp2_with (first
          | (go_at_call 25; (with_reducible refine (HF.out _).mono ?_); rintro e w7 ⟨rfl, hb7⟩; (replace X5 := X5.keep hb7 l6); (clear y0 y1 y2 y3 f0 f1 f2 f3 f4); obtain ⟨y0, y1, y2, y3⟩ := id X5; (obtain ⟨f0, f1, f2, f3, f4⟩ := HMG.out w7 (hbr.trans ((h6.trans (hb7.mono h6.size)).mono lw))))
          | (go_at_call 26; (with_reducible refine (HF2.out _).mono ?_); rintro e w8 ⟨rfl, rfl⟩)
          | fail)
        go_roundw
        case rel => exact ⟨k + 1, by omega, by go_num, H.out, hbr.trans ((h6.trans (hb7.mono h6.size)).mono lw)⟩
        case measure => simp [RowKit.intOf]; omega
      obtain ⟨m3, m4⟩ := HC.out.1 rfl
      obtain ⟨q, hq⟩ : ∃ q, (sl - r.ps + l) % l = q := ⟨_, rfl⟩
      have HQ := Lib.hid hq
      have HAR := Lib.hid (show ∀ W, Calls Tryd.prog 27 #[.agg #[.int .i64 z, .int .i64 d, .int .i64 s, .int .i64 l, .int .i64 a], .int .i64 (sl - r.ps)] W fun e w' => e = .returned (.int .i64 q) ∧ Below W.heap.size W w' from fun W => aroundR_c z d s l a (sl - r.ps) q W HO.out (by omega) hq)
      have v1 : IntKind.i64.wrap (sl - r.ps) = sl - r.ps := IntWalk.i64_in _ (by omega)
      clear hq
      by_cases q1 : q < r.nm
      · have H := Lib.hid (show O = some (k, q) by
          rw [HDR.out, ← HQ.out]
          exact if_pos ⟨⟨m1, m2⟩, ⟨m3, m4⟩, by show (sl - r.ps + l) % l < r.nm; rw [HQ.out]; exact q1⟩)
        go_wp2_with (first
          | (go_at_call 25; (with_reducible refine (HF.out _).mono ?_); rintro e w7 ⟨rfl, hb7⟩; (replace X5 := X5.keep hb7 l6); (clear y0 y1 y2 y3 f0 f1 f2 f3 f4); obtain ⟨y0, y1, y2, y3⟩ := id X5; (obtain ⟨f0, f1, f2, f3, f4⟩ := HMG.out w7 (hbr.trans ((h6.trans (hb7.mono h6.size)).mono lw))); have l7 := Nat.lt_of_lt_of_le l6 hb7.size)
          | (go_at_call 26; (with_reducible refine (HF2.out _).mono ?_); rintro e w8 ⟨rfl, rfl⟩)
          | (go_at_call 27; (with_reducible refine (HAR.out _).mono ?_); rintro e w9 ⟨rfl, hb9⟩; (replace X5 := X5.keep hb9 l7); (clear y0 y1 y2 y3 f0 f1 f2 f3 f4); obtain ⟨y0, y1, y2, y3⟩ := id X5)
          | fail)
        go_ret3
        have e9 : E = .tuple #[.int .i64 (k : Int), .int .i64 q, .bool true] := by
          have h9 := HE.out
          unfold whoE at h9
          rw [← HU.out, H.out] at h9
          exact h9
        exact ⟨by rw [e9]; rfl, bt hw (hbr.trans ((h6.trans ((bt hb7 hb9).mono h6.size)).mono lw))⟩
      · have H := Lib.hid (show O = whoN l sl (k + 1) ((tds t.ts).drop (k + 1)) by
          rw [HDR.out]
          exact if_neg fun h => q1 (by
            have h9 := h.2.2
            rw [show (sl - r.d.ps + l) % l = q from HQ.out] at h9
            exact h9))
        go_wp2_with (first
          | (go_at_call 25; (with_reducible refine (HF.out _).mono ?_); rintro e w7 ⟨rfl, hb7⟩; (replace X5 := X5.keep hb7 l6); (clear y0 y1 y2 y3 f0 f1 f2 f3 f4); obtain ⟨y0, y1, y2, y3⟩ := id X5; (obtain ⟨f0, f1, f2, f3, f4⟩ := HMG.out w7 (hbr.trans ((h6.trans (hb7.mono h6.size)).mono lw))); have l7 := Nat.lt_of_lt_of_le l6 hb7.size)
          | (go_at_call 26; (with_reducible refine (HF2.out _).mono ?_); rintro e w8 ⟨rfl, rfl⟩)
          | (go_at_call 27; (with_reducible refine (HAR.out _).mono ?_); rintro e w9 ⟨rfl, hb9⟩; (replace X5 := X5.keep hb9 l7); (clear y0 y1 y2 y3 f0 f1 f2 f3 f4); obtain ⟨y0, y1, y2, y3⟩ := id X5)
          | fail)
        go_roundw
        case rel => exact ⟨k + 1, by omega, by go_num, H.out, hbr.trans ((h6.trans ((bt hb7 hb9).mono h6.size)).mono lw)⟩
        case measure => simp [RowKit.intOf]; omega
    · have j1 : ¬ (k : Int) < (n : Int) := by omega
      obtain rfl : k = n := by omega
      have H := Lib.hid (show O = none by
        rw [HCK.out, List.drop_eq_nil_of_le (by rw [tds_length, HN.out]; exact Nat.le_refl _)]
        rfl)
      go_wp2_with fail
      go_ret3
      have e9 : E = .tuple #[.int .i64 0, .int .i64 0, .bool false] := by
        have h9 := HE.out
        unfold whoE at h9
        rw [← HU.out, H.out] at h9
        exact h9
      exact ⟨by rw [e9]; rfl, bt hw hbr⟩
end Go.Proofs.YtalmimmcfjolkaaDoor.rng

namespace Go.Proofs.YtalmimmcfjolkaaDoor.rng
open Go.RowKit Go.Lib
open Go.Proofs.YtalmimmcfjolkaaDoor.gmt (Ok)
open Go.Proofs.YtalmimmcfjolkaaDoor.anc (AV AC ac_new bl kal kst ks bm ka)
open Go.Proofs.YtalmimmcfjolkaaDoor.tbl (G5 g5_new)
open Go.Proofs.YtalmimmcfjolkaaDoor.lrc (bool_is bool_no)

/-- So many different ones below m are m at most. -/
theorem few (m : Nat) : ∀ l : List Int, l.Nodup → (∀ x ∈ l, 0 ≤ x ∧ x < (m : Int)) → l.length ≤ m := by
  induction m with
  | zero =>
    intro l _ h
    cases l with
    | nil => exact Nat.le_refl 0
    | cons x t =>
      have := h x List.mem_cons_self
      omega
  | succ m ih =>
    intro l hn h
    by_cases c : (m : Int) ∈ l
    · have h1 := ih (l.erase (m : Int)) (hn.erase _) (fun x hx => by
        have h2 := (List.Nodup.mem_erase_iff hn).1 hx
        have h3 := h x h2.2
        have h4 := h2.1
        omega)
      rw [List.length_erase_of_mem c] at h1
      omega
    · have h1 := ih l hn (fun x hx => by
        have h3 := h x hx
        have h4 : x ≠ (m : Int) := fun e => c (e ▸ hx)
        omega)
      omega
theorem zr_le (d : Int) (l : List Int) : zr d l ≤ l.length := by
  induction l with
  | nil => exact Nat.le_refl 0
  | cons x t ih =>
    rw [zr, List.length_cons]
    split <;> omega
theorem take_nextI {l : List Int} {k : Nat} {x : Int} (h : l[k]? = some x) : l.take (k + 1) = l.take k ++ [x] := by
  rw [List.take_add_one, h]
  rfl
def bcells (n : Nat) : Array Value := madeCells #[.bool false] n
theorem bcells_list (n : Nat) : (bcells n).toList = tru (List.replicate n false) := by
  unfold bcells madeCells tru
  apply List.ext_getElem
  · simp
  · intro i h2 h3
    simp [Nat.mod_one]
theorem bcells_size (n : Nat) : (bcells n).size = n := by simp [bcells, madeCells]
theorem make_bools (n : Nat) (hn : n ≤ 1048576) (W : World) : (Instr.makeSlice 47 (.int .i64 (n : Int)) (.int .i64 (n : Int))).run Tryd.prog W = .ok (.slice (some ⟨W.heap.size, 0, none⟩) n n) (W.alloc (.cells (bcells n) 4)) := by
  obtain ⟨i, hi, hz, h1, hb8⟩ : ∃ i, Tryd.prog.info? 4 = some i ∧ i.zero = some (.bool false) ∧ i.size = 1 ∧ i.bytes = 1 := by
    have h9 := b_info
    cases hq : Tryd.prog.info? 4 with
    | none => rw [hq] at h9; cases h9
    | some i =>
      rw [hq] at h9
      simp only [Option.map_some, Option.some.injEq, Prod.mk.injEq] at h9
      exact ⟨i, rfl, h9.1, h9.2.1, h9.2.2⟩
  have ht := Tryd.underlying47
  have hr := run_make (P := Tryd.prog) W 47 4 i (.bool false) ht hi hz .i64 .i64 (n : Int) (n : Int) (by omega) (by omega) (by rw [hb8]; omega) (by omega)
  simpa [h1, bcells, Value.cells] using hr
theorem ownB_new (W : World) (base n : Nat) (hn : n ≤ 1048576) (hb : base ≤ W.heap.size) : OwnB (W.alloc (.cells (bcells n) 4)) base (.slice (some ⟨W.heap.size, 0, none⟩) n n) (List.replicate n false) := by
  unfold OwnB
  rw [List.length_replicate, ← bcells_list]
  exact World.ownsRow_lit W (bcells n) n hb (by unfold maxLen; omega) (by rw [bcells_size]; omega)
/-- Two blocks of truths of one's own. -/
structure TwoB (W : World) (base g1 g2 n m : Nat) (met per : List Bool) : Prop where
  a : OwnB W base (.slice (some ⟨g1, 0, none⟩) n n) met
  b : OwnB W base (.slice (some ⟨g2, 0, none⟩) m m) per
  ne : g1 ≠ g2
  ba : base ≤ g1 ∧ g1 < W.heap.size
  bb : base ≤ g2 ∧ g2 < W.heap.size
section
variable {W W' : World} {base g1 g2 n m : Nat} {met per : List Bool}
theorem TwoB.below (h : TwoB W base g1 g2 n m met per) (hb : Below W.heap.size W W') : TwoB W' base g1 g2 n m met per :=
  ⟨h.a.below hb, h.b.below hb, h.ne, ⟨h.ba.1, Nat.lt_of_lt_of_le h.ba.2 hb.size⟩, ⟨h.bb.1, Nat.lt_of_lt_of_le h.bb.2 hb.size⟩⟩
theorem TwoB.setA (h : TwoB W base g1 g2 n m met per) (k : Nat) (b : Bool) : TwoB (W.setCell ⟨g1, k, none⟩ (.bool b)) base g1 g2 n m (met.set k b) per :=
  ⟨h.a.store b, h.b.other (by intro e; exact h.ne (Option.some.inj e).symm) _, h.ne, ⟨h.ba.1, by rw [World.size_setCell]; exact h.ba.2⟩, ⟨h.bb.1, by rw [World.size_setCell]; exact h.bb.2⟩⟩
theorem TwoB.setB (h : TwoB W base g1 g2 n m met per) (k : Nat) (b : Bool) : TwoB (W.setCell ⟨g2, k, none⟩ (.bool b)) base g1 g2 n m met (per.set k b) :=
  ⟨h.a.other (by intro e; exact h.ne (Option.some.inj e)) _, h.b.store b, h.ne, ⟨h.ba.1, by rw [World.size_setCell]; exact h.ba.2⟩, ⟨h.bb.1, by rw [World.size_setCell]; exact h.bb.2⟩⟩
theorem TwoB.cellA (h : TwoB W base g1 g2 n m met per) {k : Nat} {b : Bool} (hk : met[k]? = some b) : W.cell? ⟨g1, k, none⟩ = some (.bool b) := (h.a.cell hk).1
theorem TwoB.cellB (h : TwoB W base g1 g2 n m met per) {k : Nat} {b : Bool} (hk : per[k]? = some b) : W.cell? ⟨g2, k, none⟩ = some (.bool b) := (h.b.cell hk).1
theorem TwoB.fA (h : TwoB W base g1 g2 n m met per) (k : Nat) : W.frozen? ⟨g1, k, none⟩ = false := h.a.frozen k
theorem TwoB.fB (h : TwoB W base g1 g2 n m met per) (k : Nat) : W.frozen? ⟨g2, k, none⟩ = false := h.b.frozen k
theorem twoB_ab (W : World) (base n m : Nat) (hn : n ≤ 1048576) (hm : m ≤ 1048576) (hb : base ≤ W.heap.size) : TwoB ((W.alloc (.cells (bcells n) 4)).alloc (.cells (bcells m) 4)) base W.heap.size (W.heap.size + 1) n m (List.replicate n false) (List.replicate m false) := by
  have h1 := ownB_new (W.alloc (.cells (bcells n) 4)) base m hm (by simp; omega)
  rw [show (W.alloc (.cells (bcells n) 4)).heap.size = W.heap.size + 1 by simp] at h1
  exact ⟨(ownB_new W base n hn hb).below (bl _ _), h1, by omega, ⟨hb, by simp; omega⟩, ⟨by omega, by simp⟩⟩
theorem twoB_ba (W : World) (base n m : Nat) (hn : n ≤ 1048576) (hm : m ≤ 1048576) (hb : base ≤ W.heap.size) : TwoB ((W.alloc (.cells (bcells m) 4)).alloc (.cells (bcells n) 4)) base (W.heap.size + 1) W.heap.size n m (List.replicate n false) (List.replicate m false) := by
  have h1 := ownB_new (W.alloc (.cells (bcells m) 4)) base n hn (by simp; omega)
  rw [show (W.alloc (.cells (bcells m) 4)).heap.size = W.heap.size + 1 by simp] at h1
  exact ⟨h1, (ownB_new W base m hm hb).below (bl _ _), by omega, ⟨by omega, by simp⟩, ⟨hb, by simp; omega⟩⟩
theorem TwoB.drew (h : TwoB W base g1 g2 n m met per) : TwoB W.drew base g1 g2 n m met per := h.below (below_dr (Below.refl _ _))
end
set_option maxRecDepth 100000 in
set_option maxHeartbeats 8000000 in
theorem needR_c (z d s l a : Int) (A : Option Addr) (c n : Nat) (ys : List Int) (w : World) (ho : Ok z d s l a) (hA : SlV w w.heap.size A (ints ys)) (hn : ys.length = n) (hc : n ≤ c) (hy : LbasOk z d ys) :
    Calls Tryd.prog 16 #[.agg #[.int .i64 z, .int .i64 d, .int .i64 s, .int .i64 l, .int .i64 a], .slice A n c] w fun e w' => e = .returned (.tuple #[.int .i64 (needN d ys), .int .i64 0]) ∧ Below w.heap.size w w' := by
  obtain ⟨Z, rfl⟩ : ∃ Z : Nat, z = Z := ⟨z.toNat, by have := ho.1; omega⟩
  obtain ⟨D, rfl⟩ : ∃ D : Nat, d = D := ⟨d.toNat, by have := ho.2.1; omega⟩
  have hZ : 1 ≤ Z ∧ Z ≤ 4 := by have := ho.1; omega
  have hD : 1 ≤ D ∧ D ≤ 4 := by have := ho.2.1; omega
  obtain ⟨N, hN⟩ : ∃ N, N = Z * D := ⟨_, rfl⟩
  have hNi : (Z : Int) * (D : Int) = (N : Int) := by rw [hN, Int.natCast_mul]
  have hN16 : N ≤ 16 := by rw [hN]; exact Nat.mul_le_mul hZ.2 hD.2
  have hn16 : n ≤ 16 := by
    have h9 := few N ys hy.2 (fun x hx => by rw [← hNi]; exact hy.1 x hx)
    omega
  have HB := Lib.hid (show ∀ W, Calls Tryd.prog 29 #[.agg #[.int .i64 (Z : Int), .int .i64 (D : Int), .int .i64 s, .int .i64 l, .int .i64 a]] W fun e w' => e = .returned (.tuple #[.int .i64 (N : Int), .int .i64 0]) ∧ Below W.heap.size W w' from fun W => by
    have h9 := gmt.blocks_ok Z D s l a W ho
    rw [hNi] at h9
    exact h9)
  have HSP := Lib.hid (show ∀ (Y q m : Nat) (W : World), Y < N → q = Y / D → m = Y % D → Calls Tryd.prog 30 #[.agg #[.int .i64 (Z : Int), .int .i64 (D : Int), .int .i64 s, .int .i64 l, .int .i64 a], .int .i64 (Y : Int)] W fun e w' => e = .returned (.tuple #[.int .i64 (q : Int), .int .i64 (m : Int), .int .i64 0]) ∧ Below W.heap.size W w' from fun Y q m W hY hq hm => by
    subst hq hm
    have hr : 0 ≤ (Y : Int) ∧ (Y : Int) < (Z : Int) * (D : Int) := by omega
    exact gmt.split_at Z D s l a Y ((Y / D : Nat) : Int) ((Y % D : Nat) : Int) 0 W ho ⟨⟨fun _ => ⟨Int.natCast_ediv Y D, rfl⟩, fun h => absurd hr h⟩, ⟨fun _ => ⟨Int.natCast_emod Y D, rfl⟩, fun h => absurd hr h⟩⟩)
  have GG := g5_new w Z D s l a
  have hw := bl w (.cells #[.int .i64 (Z : Int), .int .i64 (D : Int), .int .i64 s, .int .i64 l, .int .i64 a] 23)
  have lg : w.heap.size < (w.alloc (.cells #[.int .i64 (Z : Int), .int .i64 (D : Int), .int .i64 s, .int .i64 l, .int .i64 a] 23)).heap.size := by simp
  have HA := Lib.hid (hA.next hw)
  have HY := Lib.hid hy
  have HN := Lib.hid hn
  have HNN := Lib.hid hN
  obtain ⟨E, hE⟩ : ∃ E, E = needN (D : Int) ys := ⟨_, rfl⟩
  have HE := Lib.hid hE
  rw [← hE]
  clear ho hA hn hy hN hNi hE
  go_enter Tryd.func16, Tryd.ntmps16
  go_upto_region 1 with fail
  generalize w.alloc (.cells #[.int .i64 (Z : Int), .int .i64 (D : Int), .int .i64 s, .int .i64 l, .int .i64 a] 23) = w0 at *
  obtain ⟨g0, g1, g2, g3, g4⟩ := id GG
  go_upto_region 4 with (go_at_call 29; (with_reducible refine (HB.out _).mono ?_); rintro e w1 ⟨rfl, hb1⟩)
  have HA1 := Lib.hid (HA.out.next hb1)
  replace GG := GG.keep hb1 lg
  replace hw := bt hw hb1
  replace lg := Nat.lt_of_lt_of_le lg hb1.size
  clear g0 g1 g2 g3 g4 hb1 HA HB
  obtain ⟨g0, g1, g2, g3, g4⟩ := id GG
  have hd0 := below_dr (Below.refl w1.heap.size w1)
  go_cut [8, 9] from 70 (fun p q wc => ∃ gA gB : Nat, p = .slice (some ⟨gA, 0, none⟩) N N ∧ q = .slice (some ⟨gB, 0, none⟩) Z Z ∧ TwoB wc w1.heap.size gA gB N Z (List.replicate N false) (List.replicate Z false) ∧ Below w1.heap.size w1 wc)
  case first =>
    have mk1 := make_bools N (by omega)
    have mk2 := make_bools Z (by omega)
    have TAB := Lib.hid (twoB_ab w1 w1.heap.size N Z (by omega) (by omega) (Nat.le_refl _))
    have TBA := Lib.hid (twoB_ba w1 w1.heap.size N Z (by omega) (by omega) (Nat.le_refl _))
    have B1 := Lib.hid (kal (bl w1 (.cells (bcells N) 4)) (.cells (bcells Z) 4))
    have B2 := Lib.hid (kal (bl w1 (.cells (bcells Z) 4)) (.cells (bcells N) 4))
    have HS := Lib.hid (show ∀ W, Below w1.heap.size w1 W → W.cell? ⟨w.heap.size, 0, none⟩ = some (.int .i64 (Z : Int)) ∧ Below w1.heap.size w1 W from fun W hW => ⟨ks hW lg g0, hW⟩)
    go_region_held3 (fun W => W.cell? ⟨w.heap.size, 0, none⟩ = some (.int .i64 (Z : Int)) ∧ Below w1.heap.size w1 W)
      ((refine HS.out _ ?_; first
        | with_reducible exact hd0
        | with_reducible exact kal hd0 _
        | with_reducible exact below_dr (bl w1 _)
        | with_reducible exact below_dr (kal (bl w1 _) _)
        | fail))
      (first | fail)
    all_goals (go_wp2 <;> go_meet)
    · exact ⟨_, _, rfl, rfl, TAB.out.drew, below_dr B1.out⟩
    · exact ⟨_, _, rfl, rfl, TBA.out.drew, below_dr B2.out⟩
  case rest =>
    obtain ⟨gA, gB, rfl, rfl, hT, hbc⟩ := hcut
    obtain ⟨w2, rfl⟩ : ∃ y, y = wc := ⟨wc, rfl⟩
    have HMG := Lib.hid (show ∀ W, Below w1.heap.size w1 W → G5 W w.heap.size Z D s l a from fun W hW => GG.keep hW lg)
    clear g0 g1 g2 g3 g4 GG hd0
    go_upto_region 7 with fail
    go_loopw [10, 31] (fun o i w' => ∃ (k : Nat) (R : Nat) (met per : List Bool), k ≤ n ∧ i = .int .i64 k ∧ o = .int .i64 ((k : Int) + 2 * (R : Int)) ∧ R = zr (D : Int) (ys.take k).reverse ∧ Mt Z D (ys.take k) met per ∧ TwoB w' w1.heap.size gA gB N Z met per ∧ Below w1.heap.size w1 w') (fun _ i _ => n - (RowKit.intOf i).toNat)
    case atStart => exact ⟨0, 0, List.replicate N false, List.replicate Z false, by omega, rfl, rfl, rfl, by rw [HNN.out]; exact Mt.nil Z D, by first | exact hT | exact hT.drew, by first | exact hbc | exact below_dr hbc⟩
    case round =>
      obtain ⟨w5, rfl⟩ : ∃ x, x = wr := ⟨wr, rfl⟩
      obtain ⟨k, R, met, per, hk, rfl, rfl, hR, hmt, hT5, hbr⟩ := hrel
      have lw := hbr.size
      have hR16 : R ≤ 16 := by
        have h9 := zr_le (D : Int) (ys.take k).reverse
        rw [List.length_reverse, List.length_take] at h9
        omega
      have HR := Lib.hid hR
      have HM := Lib.hid hmt
      clear hR hmt
      by_cases hlt : k < n
      · have j1 : (k : Int) < (n : Int) := by omega
        have hky : k < ys.length := by rw [HN.out]; exact hlt
        obtain ⟨b1, off, hAA, hb1, hcs⟩ := (HA1.out.below hbr) (by rw [ints_length, HN.out]; omega)
        have gy := hcs k (by rw [ints_length]; exact hky)
        rw [ints_get] at gy
        have e1 : ys[k]? = some ys[k] := List.getElem?_eq_getElem hky
        obtain ⟨y, hy⟩ : ∃ y, y = ys[k] := ⟨_, rfl⟩
        rw [← hy] at gy e1
        have hyr := HY.out.1 y (List.mem_of_getElem? e1)
        obtain ⟨Y, rfl⟩ := Int.eq_ofNat_of_zero_le hyr.1
        have hYN : Y < N := by
          have h9 := hyr.2
          rw [← Int.natCast_mul, ← HNN.out] at h9
          omega
        have HTK := Lib.hid (take_nextI e1)
        have hYZ : Y < Z * D := by rw [← HNN.out]; exact hYN
        have hnm : met[Y]? = some false := by
          rw [HM.out.m Y hYZ]
          congr 1
          refine decide_eq_false fun h => ?_
          have h9 : (ys.take (k + 1)).Nodup := HY.out.2.sublist (List.take_sublist _ _)
          rw [HTK.out, List.nodup_append] at h9
          exact h9.2.2 _ h _ (List.mem_singleton.2 rfl) rfl
        obtain ⟨q, hq⟩ : ∃ q, q = Y / D := ⟨_, rfl⟩
        obtain ⟨m, hm9⟩ : ∃ m, m = Y % D := ⟨_, rfl⟩
        have hqZ : q < Z := by rw [hq]; exact div_lt hYZ
        obtain ⟨b, hpb⟩ : ∃ b, per[q]? = some b := ⟨_, by rw [hq]; exact HM.out.p (Y / D) (div_lt hYZ)⟩
        have HNX := Lib.hid (show Mt Z D (ys.take (k + 1)) (met.set Y true) (per.set q true) by rw [HTK.out, hq]; exact HM.out.next hYZ hnm)
        have HZN := Lib.hid (show (zr (D : Int) (ys.take (k + 1)).reverse : Int) = R + (if b = true then 0 else 1) by
          rw [HTK.out, HR.out]
          exact HM.out.zone hYZ (by rw [← hq]; exact hpb))
        have HS9 := Lib.hid (HSP.out Y q m)
        have HQ := Lib.hid (And.intro hq hm9)
        rw [hAA]
        clear hcs e1 hy hyr hky hq hm9 hAA
        obtain ⟨g0, g1, g2, g3, g4⟩ := HMG.out w5 hbr
        have v1 : IntKind.i64.wrap ((k : Int) + 2 * (R : Int) + 1) = (k : Int) + 2 * (R : Int) + 1 := IntWalk.i64_in _ (by omega)
        have v2 : IntKind.i64.wrap ((k : Int) + 2 * (R : Int) + 1 + 2) = (k : Int) + 2 * (R : Int) + 1 + 2 := IntWalk.i64_in _ (by omega)
        have j2 : (Y : Int) < (N : Int) := by omega
        have j3 : (q : Int) < (Z : Int) := by omega
        go_upto_region 10 with (go_at_call 30; (with_reducible refine (HS9.out _ hYN HQ.out.1 HQ.out.2).mono ?_); rintro e w6 ⟨rfl, hb6⟩)
        have T6 := hT5.below hb6
        have c0 := T6.cellA hnm
        have f0 := T6.fA Y
        have hb16 := hbr.trans (hb6.mono lw)
        clear g0 g1 g2 g3 g4 gy
        go_upto_region 14 with fail
        have T7 := T6.setA Y true
        have hb17 := hb16.setCell (p := ⟨gA, Y, none⟩) T6.ba.1 (.bool true)
        clear c0 f0
        generalize w6.setCell ⟨gA, Y, none⟩ (.bool true) = w7 at *
        have c1 := T7.cellB hpb
        have f1 := T7.fB q
        cases b
        · go_wp2_with fail
          go_roundw
          case rel => exact ⟨k + 1, R + 1, _, _, by omega, by go_num, by go_num, by
            have h9 := HZN.out
            rw [if_neg Bool.false_ne_true] at h9
            omega, HNX.out, T7.setB q true, hb17.setCell (p := ⟨gB, q, none⟩) T7.bb.1 (.bool true)⟩
          case measure => simp [RowKit.intOf]; omega
        · go_wp2_with fail
          go_roundw
          case rel => exact ⟨k + 1, R, _, _, by omega, by go_num, by go_num, by
            have h9 := HZN.out
            rw [if_pos rfl] at h9
            omega, HNX.out, by rw [set_same hpb]; exact T7, hb17⟩
          case measure => simp [RowKit.intOf]; omega
      · have j1 : ¬ (k : Int) < (n : Int) := by omega
        obtain rfl : k = n := by omega
        have HRR := Lib.hid (show R = zr (D : Int) ys.reverse by rw [HR.out, List.take_of_length_le (by rw [HN.out]; exact Nat.le_refl _)])
        by_cases h0 : k = 0
        · have hnil : ys = [] := List.eq_nil_of_length_eq_zero (by rw [HN.out]; exact h0)
          have H := Lib.hid (show E = 0 by rw [HE.out, hnil]; rfl)
          obtain rfl : R = 0 := by rw [HRR.out, hnil]; rfl
          subst h0
          clear hnil
          go_wp2_with fail
          go_ret2
          exact ⟨by rw [H.out]; rfl, bt hw hbr⟩
        · have H := Lib.hid (show E = (k : Int) + 2 * (R : Int) + 1 by
            rw [HE.out, HRR.out, needN, if_neg (fun h => h0 (by rw [← HN.out, h]; rfl)), HN.out])
          have v1 : IntKind.i64.wrap ((k : Int) + 2 * (R : Int) + 1) = (k : Int) + 2 * (R : Int) + 1 := IntWalk.i64_in _ (by omega)
          have q1 : ((k : Int) + 2 * (R : Int) == 0) = false := beq_eq_false_iff_ne.2 (by omega)
          go_wp2_with fail
          go_ret2
          exact ⟨by rw [H.out]; rfl, bt hw hbr⟩
end Go.Proofs.YtalmimmcfjolkaaDoor.rng

namespace Go.Proofs.YtalmimmcfjolkaaDoor.rng
open Go.RowKit Go.Lib

theorem crg_any (hV : lbl.ValidOk) (w : World) (hT : lbl.Tabs w) : Crg w where
  check := fun c z d s l a x t n W hW ho hx hlab ht hn hn1 hsh hc => checkR_c hV c z d s l a x t n W (anc.tn hT hW) ho hx hlab ht hn hn1 hsh hc
  used := fun t n W _ ht hn hn1 => usedR_c t n W ht hn hn1
  next := fun z d s l a x t n W hW ho hx hlab ht hn hn1 hsh hg hL hq => nextR_c hV z d s l a x t n W (anc.tn hT hW) ho hx hlab ht hn hn1 hsh hg hL hq
  who := fun z d s l a sl t n W _ ho h0 h1 ht hn hn1 => whoR_c z d s l a sl t n W ho h0 h1 ht hn hn1
  need := fun z d s l a A c n ys W _ ho hA hn hc _ hy => needR_c z d s l a A c n ys W ho hA hn hc hy
end Go.Proofs.YtalmimmcfjolkaaDoor.rng
