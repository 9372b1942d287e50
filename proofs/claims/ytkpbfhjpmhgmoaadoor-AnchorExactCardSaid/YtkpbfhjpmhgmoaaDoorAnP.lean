/-
  bits.Mul and slices.Repeat of a row of one number, as package anchor calls them. Conditions: up to six times.
-/
import Derived.Test.YtkpbfhjpmhgmoaaDoorAnA
import Derived.Laws.CopyOwn
import Derived.Laws.MakeOwn
import Derived.Laws.BitsAllLaws
import Derived.StillTailTactics
import Derived.LoopN
namespace Go.Proofs.YtkpbfhjpmhgmoaaDoor.anc
open Go.RowKit Go.Lib
open Go.Proofs.YtkpbfhjpmhgmoaaDoor.gmt (Ok five_new)

theorem mul64_3 (w : World) : Calls Tryd.prog 69 #[.int .u64 1, .int .u64 3] w fun e w' => e = .returned (.tuple #[.int .u64 0, .int .u64 3]) ∧ w = w' := by
  go_enter Tryd.func69, Tryd.ntmps69
  go_wp2
  go_ret2
  exact ⟨rfl, rfl⟩
theorem mul_3 (w : World) : Calls Tryd.prog 63 #[.int .u64 1, .int .u64 3] w fun e w' => e = .returned (.tuple #[.int .u64 0, .int .u64 3]) ∧ w = w' := by
  go_enter Tryd.func63, Tryd.ntmps63
  go_wp2_with (go_at_call 69; (with_reducible refine (mul64_3 _).mono ?_); rintro e w' ⟨rfl, rfl⟩)
  go_ret2
  exact ⟨rfl, rfl⟩
theorem mul64_4 (w : World) : Calls Tryd.prog 69 #[.int .u64 1, .int .u64 4] w fun e w' => e = .returned (.tuple #[.int .u64 0, .int .u64 4]) ∧ w = w' := by
  go_enter Tryd.func69, Tryd.ntmps69
  go_wp2
  go_ret2
  exact ⟨rfl, rfl⟩
theorem mul_4 (w : World) : Calls Tryd.prog 63 #[.int .u64 1, .int .u64 4] w fun e w' => e = .returned (.tuple #[.int .u64 0, .int .u64 4]) ∧ w = w' := by
  go_enter Tryd.func63, Tryd.ntmps63
  go_wp2_with (go_at_call 69; (with_reducible refine (mul64_4 _).mono ?_); rintro e w' ⟨rfl, rfl⟩)
  go_ret2
  exact ⟨rfl, rfl⟩
theorem mul64_5 (w : World) : Calls Tryd.prog 69 #[.int .u64 1, .int .u64 5] w fun e w' => e = .returned (.tuple #[.int .u64 0, .int .u64 5]) ∧ w = w' := by
  go_enter Tryd.func69, Tryd.ntmps69
  go_wp2
  go_ret2
  exact ⟨rfl, rfl⟩
theorem mul_5 (w : World) : Calls Tryd.prog 63 #[.int .u64 1, .int .u64 5] w fun e w' => e = .returned (.tuple #[.int .u64 0, .int .u64 5]) ∧ w = w' := by
  go_enter Tryd.func63, Tryd.ntmps63
  go_wp2_with (go_at_call 69; (with_reducible refine (mul64_5 _).mono ?_); rintro e w' ⟨rfl, rfl⟩)
  go_ret2
  exact ⟨rfl, rfl⟩
theorem mul64_6 (w : World) : Calls Tryd.prog 69 #[.int .u64 1, .int .u64 6] w fun e w' => e = .returned (.tuple #[.int .u64 0, .int .u64 6]) ∧ w = w' := by
  go_enter Tryd.func69, Tryd.ntmps69
  go_wp2
  go_ret2
  exact ⟨rfl, rfl⟩
theorem mul_6 (w : World) : Calls Tryd.prog 63 #[.int .u64 1, .int .u64 6] w fun e w' => e = .returned (.tuple #[.int .u64 0, .int .u64 6]) ∧ w = w' := by
  go_enter Tryd.func63, Tryd.ntmps63
  go_wp2_with (go_at_call 69; (with_reducible refine (mul64_6 _).mono ?_); rintro e w' ⟨rfl, rfl⟩)
  go_ret2
  exact ⟨rfl, rfl⟩

/-- A row of one's own of which all is shown: its block is known whole, and back. -/
theorem own_whole {w : World} {base g k : Nat} {e : TypeId} {xs : List Value} (h : OwnV w base e (.slice (some ⟨g, 0, none⟩) k k) xs) (hx : xs.length = k) : w.heap[g]? = some (.cells xs.toArray e (0, 0)) := by
  rcases h.2 with ⟨h1, -⟩ | ⟨g', cap, cur, hv, -, hg, -, -, hs, ht⟩
  · cases h1
  · simp only [Value.slice.injEq, Option.some.injEq, Addr.mk.injEq, and_true] at hv
    obtain ⟨rfl, -, rfl⟩ := hv
    rw [hg, ← ht, hx, Nat.mul_one, List.take_of_length_le (by rw [Array.length_toList, hs]; omega)]
theorem whole_own {w : World} {base g k : Nat} {e : TypeId} {xs : List Value} (hg : w.heap[g]? = some (.cells xs.toArray e (0, 0))) (hb : base ≤ g) (hx : xs.length = k) (hm : k ≤ maxLen) : OwnV w base e (.slice (some ⟨g, 0, none⟩) k k) xs := by
  unfold OwnV
  rw [hx]
  exact ⟨by rw [hx, Nat.mul_one], .inr ⟨g, k, xs.toArray, rfl, hb, hg, Nat.le_refl _, hm, by simp [hx], by rw [List.toList_toArray, List.take_of_length_le (by omega)]⟩⟩
/-- n ones, then noughts: k in all. -/
def onesTo (n k : Nat) : List Value := List.replicate n (.int .i64 1) ++ List.replicate (k - n) (.int .i64 0)
theorem onesTo_length {n k : Nat} (h : n ≤ k) : (onesTo n k).length = k := by simp [onesTo]; omega
theorem onesTo_one (n k : Nat) : ∀ u ∈ onesTo n k, u.oneCell' = true := by
  intro u hu
  rcases List.mem_append.1 hu with h | h <;> (rw [List.eq_of_mem_replicate h]; rfl)
theorem onesTo_splice (n m k : Nat) : splice (onesTo n k) n (List.replicate m (.int .i64 1)) = onesTo (n + m) k := by
  unfold splice onesTo
  rw [List.take_left' (by simp), ← List.append_assoc, List.replicate_append_replicate]
  congr 1
  rw [List.length_replicate, ← List.drop_drop, List.drop_left' (by simp), List.drop_replicate]
  congr 1
  omega
theorem onesTo_all (k : Nat) : onesTo k k = ints (List.replicate k 1) := by simp [onesTo, ints]
theorem onesTo_none (k : Nat) : onesTo 0 k = List.replicate k (.int .i64 0) := by simp [onesTo]
theorem makeI (n base : Nat) (W : World) (hn : n ≤ 16777216) (hb : base ≤ W.heap.size) :
    ∃ w', (Instr.makeSlice 52 (.int .i64 (n : Int)) (.int .i64 (n : Int))).run Tryd.prog W = .ok (.slice (some ⟨W.heap.size, 0, none⟩) n n) w' ∧
      OwnV w' base 3 (.slice (some ⟨W.heap.size, 0, none⟩) n n) (onesTo 0 n) ∧ W.grownBy w' none := by
  obtain ⟨ht, _, i, hi, hz, h1, hb8⟩ := tvI
  obtain ⟨w', hr, ho, hg⟩ := run_makeSlice_full (P := Tryd.prog) (w := W) base 52 3 i (.int .i64 0) 1 ht hi hz h1 .i64 .i64 n (by omega) (by rw [hb8]; omega) (by unfold maxLen; omega) hb
  refine ⟨w', hr, ?_, hg⟩
  unfold OwnV
  rw [onesTo_length (Nat.zero_le _), onesTo_none]
  rw [Nat.mul_one] at ho
  have e : (madeCells (Value.int .i64 0).cells n).toList = List.replicate n (.int .i64 0) := by
    unfold madeCells
    have h1 : (Value.int .i64 0).cells = #[.int .i64 0] := rfl
    rw [h1]
    apply List.ext_getElem
    · simp
    · intro i h2 h3
      simp [Nat.mod_one]
  rw [← e]
  exact ho

set_option maxRecDepth 100000 in
set_option maxHeartbeats 2000000 in
theorem repeat_any (k : Nat) (a : Addr) (c B : Nat) (w : World) (h1 : 1 ≤ k) (h2 : k ≤ 6) (hA : SlV w B (some a) [.int .i64 1]) (hB : B ≤ w.heap.size)
    (cM : ∀ W, Calls Tryd.prog 63 #[.int .u64 1, .int .u64 k] W fun e w' => e = .returned (.tuple #[.int .u64 0, .int .u64 k]) ∧ W = w') :
    Calls Tryd.prog 54 #[.slice (some a) 1 c, .int .i64 k] w fun e w' => OneI w.heap.size k (List.replicate k 1) e w' ∧ Below w.heap.size w w' := by
  obtain ⟨w1, hmk, own1, hg1⟩ := makeI k w.heap.size w (by omega) (Nat.le_refl _)
  have hb1 : Below w.heap.size w w1 := (Below.refl _ _).grown hg1 (Nat.le_refl _) (fun k hk => by cases hk)
  have hw1 := own_whole own1 (onesTo_length (Nat.zero_le _))
  have src := (hA.below (hb1.mono hB))
  have i1 : (1 : Int) ≤ (k : Int) := by omega
  have i2 : (k : Int) ≤ 6 := by omega
  have hsz : (Tryd.prog.info? 3).map (·.size) = some 1 := by kernel_rfl
  have HS : Hid (∀ j v, [Value.int .i64 1][j]? = some v → w1.cell? (a.add j) = some v) := Lib.hid fun j v hj => by
    obtain ⟨b, off, ha, -, hc⟩ := src (by simp)
    obtain rfl := Option.some.inj ha
    obtain ⟨hj1, rfl⟩ := List.getElem?_eq_some_iff.1 hj
    rw [Addr.add_lit]
    exact hc j hj1
  have HW := Lib.hid hw1
  have HU := Lib.hid (Tryd.underlying52)
  have HZ := Lib.hid hsz
  clear hA src hw1 own1 hg1 hsz
  go_enter Tryd.func54, Tryd.ntmps54
  go_wp2_with (first
    | (go_at_call 63; (with_reducible refine (cM _).mono ?_); rintro e w' ⟨rfl, rfl⟩)
    | (refine wpList_copy_splice (o := ⟨some 33, _, _, _, _, _⟩) rfl (.tmp 31) (.tmp 32) _ _ rfl 3 HU.out HZ.out _ _ _ _ _ _ rfl rfl w.heap.size 0 (onesTo 0 k) 3 HW.out [.int .i64 1] ?q1 ?q2 ?q3 ?q4 w.heap.size w hb1 (Nat.le_refl _) ?_
       case q1 => show 1 = Nat.min 1 k; simp only [Nat.min_def]; split <;> omega
       case q2 => exact fun _ => ⟨rfl, a, rfl, HS.out⟩
       case q3 => rw [onesTo_length (Nat.zero_le _)]; show 0 + 1 ≤ k; omega
       case q4 => intro v hv; rw [List.mem_singleton.1 hv]; rfl
       intro w2 HG2 hb2))
  have e1 : splice (onesTo 0 k) 0 [.int .i64 1] = onesTo (0 + 1) k := onesTo_splice 0 1 k
  rw [e1, Nat.zero_add] at HG2
  clear e1 HW HS cM hmk hb1 w1
  go_loopw [8] (fun i w' => ∃ n : Nat, 1 ≤ n ∧ n ≤ k ∧ i = .int .i64 n ∧ Hid (w'.heap[w.heap.size]? = some (.cells (onesTo n k).toArray 3 (0, 0))) ∧ Below w.heap.size w w') (fun i _ => k - (RowKit.intOf i).toNat)
  case atStart => exact ⟨1, by omega, h1, rfl, HG2, hb2⟩
  case round =>
    clear HG2 hb2
    obtain ⟨w3, rfl⟩ : ∃ x, x = wr := ⟨wr, rfl⟩
    obtain ⟨n, hn1, hnk, rfl, HG, hbr⟩ := hrel
    by_cases hlt : n < k
    · have j1 : (n : Int) < (k : Int) := by omega
      have j2 : (0 : Int) ≤ (n : Int) := by omega
      have j3 : (n : Int) ≤ (k : Int) := by omega
      obtain ⟨m, hm⟩ : ∃ m, m = Nat.min n (k - n) := ⟨_, rfl⟩
      have hm1 : n + m ≤ k := by rw [hm]; simp only [Nat.min_def]; split <;> omega
      have hm2 : 1 ≤ m := by rw [hm]; simp only [Nat.min_def]; split <;> omega
      have hm3 : m ≤ n := by rw [hm]; exact Nat.min_le_left _ _
      have HM := Lib.hid hm
      clear hm
      have k1 : IntKind.i64.wrap ((n : Int) + (m : Int)) = ((n + m : Nat) : Int) := by
        rw [← Int.natCast_add]
        exact IntWalk.i64_in _ (by omega)
      have hkn : ¬ k = n := by omega
      go_wp2_with fail
      go_region_held3 (fun _ => True) (exact trivial)
        (first
          | (refine step_copy_splice rfl (.tmp 41) (.tmp 44) _ _ rfl 3 HU.out HZ.out _ _ _ _ _ _ rfl rfl w.heap.size n (onesTo n k) 3 (HG.out) (List.replicate m (.int .i64 1)) ?q1 ?q2 ?q3 ?q4 w.heap.size w (below_dr hbr) (Nat.le_refl _) ?_
             case q1 => rw [List.length_replicate, HM.out]
             case q2 =>
               intro _
               refine ⟨rfl, _, rfl, fun j v hj => ?_⟩
               obtain ⟨hj1, rfl⟩ := List.getElem?_eq_some_iff.1 hj
               rw [List.length_replicate] at hj1
               have hgd : w3.drew.heap[w.heap.size]? = some (.cells (onesTo n k).toArray 3 (0, 0)) := HG.out
               rw [Addr.add_lit, cell_of_row _ _ _ _ _ _ hgd, Nat.zero_add]
               simp [onesTo, List.getElem?_append, show j < n by omega]
             case q3 => rw [onesTo_length hnk, List.length_replicate]; exact hm1
             case q4 => intro v hv; rw [List.eq_of_mem_replicate hv]; rfl
             intro w4 HG4 hb4))
      rw [onesTo_splice] at HG4
      clear hkn k1
      go_wp2_with fail
      go_roundw
      case rel => exact ⟨n + m, by omega, hm1, by go_num, HG4, hb4⟩
      case measure => simp [RowKit.intOf]; omega
    · obtain rfl : n = k := by omega
      have ho := whole_own (base := w.heap.size) HG.out (Nat.le_refl _) (onesTo_length (Nat.le_refl _)) (by unfold maxLen; omega)
      rw [onesTo_all] at ho
      have HO := Lib.hid (oneI_of ho (List.length_replicate ..))
      clear ho
      go_wp2_with fail
      go_ret
      exact ⟨HO.out, hbr⟩
theorem repeat_at (D : Nat) (a : Addr) (c B : Nat) (w : World) (h1 : 1 ≤ D) (h2 : D ≤ 4) (hA : SlV w B (some a) [.int .i64 1]) (hB : B ≤ w.heap.size) :
    Calls Tryd.prog 54 #[.slice (some a) 1 c, .int .i64 ((D : Int) + 1 + 1)] w fun e w' => OneI w.heap.size (D + 2) (List.replicate (D + 2) 1) e w' ∧ Below w.heap.size w w' := by
  have h : D = 1 ∨ D = 2 ∨ D = 3 ∨ D = 4 := by omega
  rcases h with rfl | rfl | rfl | rfl
  · exact repeat_any 3 a c B w (by omega) (by omega) hA hB mul_3
  · exact repeat_any 4 a c B w (by omega) (by omega) hA hB mul_4
  · exact repeat_any 5 a c B w (by omega) (by omega) hA hB mul_5
  · exact repeat_any 6 a c B w (by omega) (by omega) hA hB mul_6

set_option maxHeartbeats 2000000 in
theorem homeSizes_at (z s l a : Int) (D : Nat) (w : World) (ho : Ok z D s l a) :
    Calls Tryd.prog 36 #[.agg #[.int .i64 z, .int .i64 D, .int .i64 s, .int .i64 l, .int .i64 a]] w fun e w' => OneI w.heap.size (D + 3) (List.replicate (D + 2) 1 ++ [4]) e w' ∧ Below w.heap.size w w' := by
  have cP := fun W => placeCount_at z D s l a W ho
  obtain ⟨-, o2, -⟩ := ho
  obtain ⟨g0, g1, g2, g3, g4⟩ := five_new w z D s l a
  have B0 := bl w (.cells #[.int .i64 z, .int .i64 D, .int .i64 s, .int .i64 l, .int .i64 a] 23)
  have lg : w.heap.size < (w.alloc (.cells #[.int .i64 z, .int .i64 D, .int .i64 s, .int .i64 l, .int .i64 a] 23)).heap.size := by simp
  go_enter Tryd.func36, Tryd.ntmps36
  go_upto_region 1 with fail
  generalize w.alloc (.cells #[.int .i64 z, .int .i64 D, .int .i64 s, .int .i64 l, .int .i64 a] 23) = w0 at *
  have hb1 := bl w0 (.cells #[.int .i64 1] 3)
  replace g0 := kst hb1 lg g0
  replace g1 := kst hb1 lg g1
  replace g2 := kst hb1 lg g2
  replace g3 := kst hb1 lg g3
  replace g4 := kst hb1 lg g4
  have cR := fun (W : World) (hW : Below (w0.alloc (.cells #[.int .i64 1] 3)).heap.size (w0.alloc (.cells #[.int .i64 1] 3)) W) => repeat_at D ⟨w0.heap.size, 0, none⟩ 1 (w0.alloc (.cells #[.int .i64 1] 3)).heap.size W (by omega) (by omega) ((SlV.of_block (B := (w0.alloc (.cells #[.int .i64 1] 3)).heap.size) (heap_alloc_new w0 (.cells #[.int .i64 1] 3)) rfl (by simp)).below hW) hW.size
  have b01 := bt B0 hb1
  have HR := Lib.hid cR
  clear cR
  go_wp2_with (first
    | (go_at_call 51; (with_reducible refine (cP _).mono ?_); rintro e w2 ⟨rfl, hb2⟩)
    | (go_at_call 54; (with_reducible refine (HR.out _ hb2).mono ?_); rintro e w3 ⟨⟨A3, c3, rfl, -, own3⟩, hb3⟩)
    | (at_builtin
       refine wpList_appV _ rfl (.tmp 7) (.tmp 8) _ _ rfl w.heap.size 3 tvI _ (ints (List.replicate (D + 2) 1)) rfl ((own3.less (base' := w.heap.size) (bt b01 hb2).size).alloc _) _ [.int .i64 4] rfl ((SlV.of_block (vs := [.int .i64 4]) (heap_alloc_new _ _) rfl (Nat.lt_succ_self _)).src (ints_one [4]) Tryd.underlying52 1) ?_ ?_ ?_ ?_
       · rw [ints_length]; unfold maxLen; simp; omega
       · rw [ints_length]; simp; omega
       · have := (bt (bt b01 hb2) hb3).size; simp; omega
       intro v4 w4 own4 hg4 hat4))
  go_ret
  have hb4 : Below w.heap.size w w4 := ((bt (bt b01 hb2) hb3).alloc (bt (bt b01 hb2) hb3).size _).grown hg4 (by have := (bt (bt b01 hb2) hb3).size; simp; omega) (fun q hq => (World.ownsRow.lt (own3.less (base' := w.heap.size) (bt b01 hb2).size) q hq).1)
  refine ⟨oneI_of (by rw [ints_append]; exact own4) (by simp), hb4⟩
end Go.Proofs.YtkpbfhjpmhgmoaaDoor.anc
