/-
  Package entry: what a reading says (payload), Block. Conditions: none.
-/
import Derived.Test.YtejfehkcjcohdaaEnS
import Derived.Test.YtejfehkcjcohdaaTbW
namespace Go.Proofs.Ytejfehkcjcohdaa.ent
open Go.RowKit Go.Lib
open Go.Proofs.Ytejfehkcjcohdaa.gmt (Ok)
open Go.Proofs.Ytejfehkcjcohdaa.anc (bl kal kst ks bm ka)
open Go.Proofs.Ytejfehkcjcohdaa.sel (Three three_new Lies opened Opn no opened_err enc enc_opened open_any)
open Go.Proofs.Ytejfehkcjcohdaa.tbl (Ent EntOk entsN TV C1 c1_new G5 g5_new TbE)

/-- Bytes, and whether. -/
def BytB (base : Nat) (l : List UInt8) (c : Bool) (e : Ending) (w' : World) : Prop := ∃ (Y : Option Addr) (y : Nat), e = .returned (.tuple #[.slice Y l.length y, .bool c]) ∧ Own w' base 5 (.slice Y l.length y) l
theorem open_r (n c : Nat) (A : Option Addr) (b : List UInt8) (W : World) (hn : b.length = n) (hc : n ≤ c) (hm : c ≤ maxLen) (hA : Sl W W.heap.size A b) :
    Calls Try.prog 43 #[.slice A n c] W fun e w' => OpR W.heap.size (opened b) e w' ∧ Below W.heap.size W w' := by
  refine (open_any n A c b W hn hc hm hA).mono ?_
  rintro e w' ⟨⟨v, rfl, ho⟩, hb⟩
  obtain ⟨Y, y, hv, -, -, -, -⟩ := id ho.form
  subst hv
  exact ⟨⟨Y, y, rfl, ho⟩, hb⟩
set_option maxRecDepth 100000 in
set_option maxHeartbeats 8000000 in
theorem pay_err (e addr st : Int) (A : Option Addr) (n k : Nat) (w : World) (he : e ≠ 0) :
    Calls Try.prog 26 #[.agg #[.int .i64 e, .slice A n k], .int .i64 addr, .int .i64 st] w fun e w' => BytB w.heap.size [] false e w' ∧ Below w.heap.size w w' := by
  have i1 : (e != 0) = true := bne_iff_ne.2 he
  clear he
  have hx := bl w (.cells #[.int .i64 e, .slice A n k] 27)
  have x0 : (w.alloc (.cells #[.int .i64 e, .slice A n k] 27)).cell? ⟨w.heap.size, 0, none⟩ = some (.int .i64 e) := by rw [cell_of_row _ _ _ _ _ _ (heap_alloc_new w _)]; rfl
  have x1 : (w.alloc (.cells #[.int .i64 e, .slice A n k] 27)).cell? ⟨w.heap.size, 1, none⟩ = some (.slice A n k) := by rw [cell_of_row _ _ _ _ _ _ (heap_alloc_new w _)]; rfl
  go_enter Try.func26, Try.ntmps26
  go_upto_region 1 with fail
  generalize w.alloc (.cells #[.int .i64 e, .slice A n k] 27) = w0 at *
  go_wp2_with fail
  exact bodyPost_ret (v := .tuple #[.slice none 0 0, .bool false]) (by simp [results, Try.results26, go_sem]) rfl ⟨⟨none, 0, rfl, own_nil _ _ _⟩, hx⟩
set_option maxRecDepth 100000 in
set_option maxHeartbeats 8000000 in
theorem pay_no (e addr st : Int) (A : Option Addr) (n k : Nat) (r : Opn) (w : World) (he : e = 0) (hr : ¬ (r.err = 0 ∧ (r.addr : Int) = addr ∧ (r.stamp : Int) = st)) (cS : ∀ W, Below w.heap.size w W → Calls Try.prog 43 #[.slice A n k] W fun e w' => OpR W.heap.size r e w' ∧ Below W.heap.size W w') :
    Calls Try.prog 26 #[.agg #[.int .i64 e, .slice A n k], .int .i64 addr, .int .i64 st] w fun e w' => BytB w.heap.size [] false e w' ∧ Below w.heap.size w w' := by
  have i1 : (e != 0) = false := by rw [he]; rfl
  have q : ((r.err : Int) != 0) = true ∨ (((r.err : Int) != 0) = false ∧ ((r.addr : Int) != addr) = true) ∨ (((r.err : Int) != 0) = false ∧ ((r.addr : Int) != addr) = false ∧ ((r.stamp : Int) != st) = true) := by
    by_cases h1 : r.err = 0
    · by_cases h2 : (r.addr : Int) = addr
      · exact .inr (.inr ⟨by rw [h1]; rfl, by rw [h2]; exact bne_self_eq_false _, bne_iff_ne.2 fun h => hr ⟨h1, h2, h⟩⟩)
      · exact .inr (.inl ⟨by rw [h1]; rfl, bne_iff_ne.2 h2⟩)
    · exact .inl (bne_iff_ne.2 (by omega))
  have HO := Lib.hid cS
  clear he hr cS
  have hx := bl w (.cells #[.int .i64 e, .slice A n k] 27)
  have x0 : (w.alloc (.cells #[.int .i64 e, .slice A n k] 27)).cell? ⟨w.heap.size, 0, none⟩ = some (.int .i64 e) := by rw [cell_of_row _ _ _ _ _ _ (heap_alloc_new w _)]; rfl
  have x1 : (w.alloc (.cells #[.int .i64 e, .slice A n k] 27)).cell? ⟨w.heap.size, 1, none⟩ = some (.slice A n k) := by rw [cell_of_row _ _ _ _ _ _ (heap_alloc_new w _)]; rfl
  go_enter Try.func26, Try.ntmps26
  go_upto_region 1 with fail
  generalize w.alloc (.cells #[.int .i64 e, .slice A n k] 27) = w0 at *
  go_upto_region 4 with (go_at_call 43; (with_reducible refine (HO.out _ hx).mono ?_); rintro e w1 ⟨⟨Y, y, rfl, hs⟩, hb1⟩)
  have hxS := bl w1 (.cells #[.int .i64 r.addr, .int .i64 r.stamp, .slice Y r.load.length y] 51)
  have TT := three_new w1 (.int .i64 r.addr) (.int .i64 r.stamp) (.slice Y r.load.length y) 51
  have HB := bt (bt hx hb1) hxS
  have HS := Lib.hid (hs.below hxS)
  have lw := hx.size
  have lw1 := hb1.size
  clear hs hxS hb1 hx x0 x1 HO
  generalize w1.alloc (.cells #[.int .i64 r.addr, .int .i64 r.stamp, .slice Y r.load.length y] 51) = w2 at *
  obtain ⟨t0, t1, t2, -, -, -⟩ := id TT
  rcases q with q | ⟨q, q2⟩ | ⟨q, q2, q3⟩
  all_goals
    go_wp2_with fail
    exact bodyPost_ret (v := .tuple #[.slice none 0 0, .bool false]) (by simp [results, Try.results26, go_sem]) rfl ⟨⟨none, 0, rfl, own_nil _ _ _⟩, HB⟩
set_option maxRecDepth 100000 in
set_option maxHeartbeats 8000000 in
theorem pay_yes (e addr st : Int) (A : Option Addr) (n k : Nat) (r : Opn) (w : World) (he : e = 0) (hr : r.err = 0 ∧ (r.addr : Int) = addr ∧ (r.stamp : Int) = st) (cS : ∀ W, Below w.heap.size w W → Calls Try.prog 43 #[.slice A n k] W fun e w' => OpR W.heap.size r e w' ∧ Below W.heap.size W w') :
    Calls Try.prog 26 #[.agg #[.int .i64 e, .slice A n k], .int .i64 addr, .int .i64 st] w fun e w' => BytB w.heap.size r.load true e w' ∧ Below w.heap.size w w' := by
  have i1 : (e != 0) = false := by rw [he]; rfl
  have q1 : ((r.err : Int) != 0) = false := by rw [hr.1]; rfl
  have q2 : ((r.addr : Int) != addr) = false := by rw [hr.2.1]; exact bne_self_eq_false _
  have q3 : ((r.stamp : Int) != st) = false := by rw [hr.2.2]; exact bne_self_eq_false _
  have HO := Lib.hid cS
  clear he hr cS
  have hx := bl w (.cells #[.int .i64 e, .slice A n k] 27)
  have x0 : (w.alloc (.cells #[.int .i64 e, .slice A n k] 27)).cell? ⟨w.heap.size, 0, none⟩ = some (.int .i64 e) := by rw [cell_of_row _ _ _ _ _ _ (heap_alloc_new w _)]; rfl
  have x1 : (w.alloc (.cells #[.int .i64 e, .slice A n k] 27)).cell? ⟨w.heap.size, 1, none⟩ = some (.slice A n k) := by rw [cell_of_row _ _ _ _ _ _ (heap_alloc_new w _)]; rfl
  go_enter Try.func26, Try.ntmps26
  go_upto_region 1 with fail
  generalize w.alloc (.cells #[.int .i64 e, .slice A n k] 27) = w0 at *
  go_upto_region 4 with (go_at_call 43; (with_reducible refine (HO.out _ hx).mono ?_); rintro e w1 ⟨⟨Y, y, rfl, hs⟩, hb1⟩)
  have hxS := bl w1 (.cells #[.int .i64 r.addr, .int .i64 r.stamp, .slice Y r.load.length y] 51)
  have TT := three_new w1 (.int .i64 r.addr) (.int .i64 r.stamp) (.slice Y r.load.length y) 51
  have HB := bt (bt hx hb1) hxS
  have HS := Lib.hid (hs.below hxS)
  have lw := hx.size
  have lw1 := hb1.size
  clear hs hxS hb1 hx x0 x1 HO
  generalize w1.alloc (.cells #[.int .i64 r.addr, .int .i64 r.stamp, .slice Y r.load.length y] 51) = w2 at *
  obtain ⟨t0, t1, t2, -, -, -⟩ := id TT
  go_wp2_with fail
  exact bodyPost_ret (v := .tuple #[.slice Y r.load.length y, .bool true]) (by simp [results, Try.results26, go_sem]) rfl ⟨⟨Y, y, rfl, HS.out.less lw⟩, HB⟩
/-- What a reading says. -/
theorem pay_c (c : Bool) (e addr st : Int) (A : Option Addr) (n k : Nat) (b : List UInt8) (w : World) (hn : b.length = n) (hk : n ≤ k) (hm : k ≤ maxLen) (hA : Sl w w.heap.size A b) (hc : c = true ↔ SayB e b addr st) :
    Calls Try.prog 26 #[.agg #[.int .i64 e, .slice A n k], .int .i64 addr, .int .i64 st] w fun e w' => BytB w.heap.size (part c (opened b).load) c e w' ∧ Below w.heap.size w w' := by
  have cS : ∀ W, Below w.heap.size w W → Calls Try.prog 43 #[.slice A n k] W fun e w' => OpR W.heap.size (opened b) e w' ∧ Below W.heap.size W w' := fun W hW => open_r n k A b W hn hk hm (hA.next hW)
  cases c
  case true =>
    obtain ⟨h0, h1⟩ := hc.1 rfl
    exact pay_yes e addr st A n k (opened b) w h0 h1 cS
  case false =>
    by_cases h0 : e = 0
    · exact pay_no e addr st A n k (opened b) w h0 (fun h => Bool.false_ne_true (hc.2 ⟨h0, h⟩)) cS
    · exact pay_err e addr st A n k w h0
set_option maxRecDepth 100000 in
set_option maxHeartbeats 8000000 in
theorem blk_none (e addr st sm : Int) (ls : Bool) (A : Option Addr) (n k : Nat) (w : World) (cP : ∀ W, Below w.heap.size w W → Calls Try.prog 26 #[.agg #[.int .i64 e, .slice A n k], .int .i64 addr, .int .i64 st] W fun e w' => BytB W.heap.size [] false e w' ∧ Below W.heap.size W w') :
    Calls Try.prog 9 #[.agg #[.int .i64 e, .slice A n k], .int .i64 addr, .agg #[.int .i64 st, .int .i64 sm, .bool ls]] w fun e w' => BytB w.heap.size [] false e w' ∧ Below w.heap.size w w' := by
  have HP := Lib.hid cP
  clear cP
  have s1 : (w.alloc (.cells #[.int .i64 e, .slice A n k] 27)).heap.size = w.heap.size + 1 := by simp
  have hx2 := bl (w.alloc (.cells #[.int .i64 e, .slice A n k] 27)) (.cells #[.int .i64 st, .int .i64 sm, .bool ls] 29)
  have x0 : ((w.alloc (.cells #[.int .i64 e, .slice A n k] 27)).alloc (.cells #[.int .i64 st, .int .i64 sm, .bool ls] 29)).cell? ⟨w.heap.size, 0, none⟩ = some (.int .i64 e) := kst hx2 (by omega) (by rw [cell_of_row _ _ _ _ _ _ (heap_alloc_new w _)]; rfl)
  have x1 : ((w.alloc (.cells #[.int .i64 e, .slice A n k] 27)).alloc (.cells #[.int .i64 st, .int .i64 sm, .bool ls] 29)).cell? ⟨w.heap.size, 1, none⟩ = some (.slice A n k) := kst hx2 (by omega) (by rw [cell_of_row _ _ _ _ _ _ (heap_alloc_new w _)]; rfl)
  have TT := three_new (w.alloc (.cells #[.int .i64 e, .slice A n k] 27)) (.int .i64 st) (.int .i64 sm) (.bool ls) 29
  rw [s1] at TT
  have hx := kal (bl w (.cells #[.int .i64 e, .slice A n k] 27)) (.cells #[.int .i64 st, .int .i64 sm, .bool ls] 29)
  have l1 : w.heap.size + 1 < ((w.alloc (.cells #[.int .i64 e, .slice A n k] 27)).alloc (.cells #[.int .i64 st, .int .i64 sm, .bool ls] 29)).heap.size := by simp
  clear s1 hx2
  go_enter Try.func9, Try.ntmps9
  go_upto_region 1 with fail
  generalize ((w.alloc (.cells #[.int .i64 e, .slice A n k] 27)).alloc (.cells #[.int .i64 st, .int .i64 sm, .bool ls] 29)) = w0 at *
  obtain ⟨t0, t1, t2, -, -, -⟩ := id TT
  go_upto_region 2 with (go_at_call 26; (with_reducible refine (HP.out _ hx).mono ?_); rintro e w1 ⟨⟨Y, y, rfl, hs⟩, hb1⟩)
  have TT1 := TT.keep hb1 l1
  have HB := bt hx hb1
  have HS := Lib.hid hs
  have lw := hx.size
  clear hs hb1 hx x0 x1 HP TT t0 t1 t2
  obtain ⟨t0, t1, t2, -, -, -⟩ := id TT1
  go_quiet (fail)
  go_wp2
  exact bodyPost_ret (v := .tuple #[.slice none 0 0, .bool false]) (by simp [results, Try.results9, go_sem]) rfl ⟨⟨none, 0, rfl, own_nil _ _ _⟩, below_dn HB _⟩
set_option maxRecDepth 100000 in
set_option maxHeartbeats 8000000 in
theorem blk_len (e addr st sm : Int) (ls : Bool) (A : Option Addr) (n k q : Nat) (L : List UInt8) (w : World) (hL : L.length = q) (hq : q ≠ 8) (cP : ∀ W, Below w.heap.size w W → Calls Try.prog 26 #[.agg #[.int .i64 e, .slice A n k], .int .i64 addr, .int .i64 st] W fun e w' => BytB W.heap.size L true e w' ∧ Below W.heap.size W w') :
    Calls Try.prog 9 #[.agg #[.int .i64 e, .slice A n k], .int .i64 addr, .agg #[.int .i64 st, .int .i64 sm, .bool ls]] w fun e w' => BytB w.heap.size [] false e w' ∧ Below w.heap.size w w' := by
  have i1 : ((q : Int) != 8) = true := bne_iff_ne.2 (by omega)
  have HP := Lib.hid cP
  clear cP hq
  have s1 : (w.alloc (.cells #[.int .i64 e, .slice A n k] 27)).heap.size = w.heap.size + 1 := by simp
  have hx2 := bl (w.alloc (.cells #[.int .i64 e, .slice A n k] 27)) (.cells #[.int .i64 st, .int .i64 sm, .bool ls] 29)
  have x0 : ((w.alloc (.cells #[.int .i64 e, .slice A n k] 27)).alloc (.cells #[.int .i64 st, .int .i64 sm, .bool ls] 29)).cell? ⟨w.heap.size, 0, none⟩ = some (.int .i64 e) := kst hx2 (by omega) (by rw [cell_of_row _ _ _ _ _ _ (heap_alloc_new w _)]; rfl)
  have x1 : ((w.alloc (.cells #[.int .i64 e, .slice A n k] 27)).alloc (.cells #[.int .i64 st, .int .i64 sm, .bool ls] 29)).cell? ⟨w.heap.size, 1, none⟩ = some (.slice A n k) := kst hx2 (by omega) (by rw [cell_of_row _ _ _ _ _ _ (heap_alloc_new w _)]; rfl)
  have TT := three_new (w.alloc (.cells #[.int .i64 e, .slice A n k] 27)) (.int .i64 st) (.int .i64 sm) (.bool ls) 29
  rw [s1] at TT
  have hx := kal (bl w (.cells #[.int .i64 e, .slice A n k] 27)) (.cells #[.int .i64 st, .int .i64 sm, .bool ls] 29)
  have l1 : w.heap.size + 1 < ((w.alloc (.cells #[.int .i64 e, .slice A n k] 27)).alloc (.cells #[.int .i64 st, .int .i64 sm, .bool ls] 29)).heap.size := by simp
  clear s1 hx2
  go_enter Try.func9, Try.ntmps9
  go_upto_region 1 with fail
  generalize ((w.alloc (.cells #[.int .i64 e, .slice A n k] 27)).alloc (.cells #[.int .i64 st, .int .i64 sm, .bool ls] 29)) = w0 at *
  obtain ⟨t0, t1, t2, -, -, -⟩ := id TT
  go_upto_region 2 with (go_at_call 26; (with_reducible refine (HP.out _ hx).mono ?_); rintro e w1 ⟨⟨Y, y, rfl, hs⟩, hb1⟩)
  have TT1 := TT.keep hb1 l1
  have HB := bt hx hb1
  have HS := Lib.hid hs
  have lw := hx.size
  clear hs hb1 hx x0 x1 HP TT t0 t1 t2
  obtain ⟨t0, t1, t2, -, -, -⟩ := id TT1
  go_quiet (fail)
  go_wp2
  exact bodyPost_ret (v := .tuple #[.slice none 0 0, .bool false]) (by simp [results, Try.results9, go_sem]) rfl ⟨⟨none, 0, rfl, own_nil _ _ _⟩, below_dn HB _⟩
set_option maxRecDepth 100000 in
set_option maxHeartbeats 8000000 in
theorem blk_sum (c : Bool) (e addr st sm S : Int) (ls : Bool) (A : Option Addr) (n k : Nat) (L : List UInt8) (w : World) (hL : L.length = 8) (hS : S = ((crc.sum L : Nat) : Int)) (hc : c = true ↔ S = sm) (cP : ∀ W, Below w.heap.size w W → Calls Try.prog 26 #[.agg #[.int .i64 e, .slice A n k], .int .i64 addr, .int .i64 st] W fun e w' => BytB W.heap.size L true e w' ∧ Below W.heap.size W w') :
    Calls Try.prog 9 #[.agg #[.int .i64 e, .slice A n k], .int .i64 addr, .agg #[.int .i64 st, .int .i64 sm, .bool ls]] w fun e w' => BytB w.heap.size (part c L) c e w' ∧ Below w.heap.size w w' := by
  have HP := Lib.hid cP
  clear cP
  have s1 : (w.alloc (.cells #[.int .i64 e, .slice A n k] 27)).heap.size = w.heap.size + 1 := by simp
  have hx2 := bl (w.alloc (.cells #[.int .i64 e, .slice A n k] 27)) (.cells #[.int .i64 st, .int .i64 sm, .bool ls] 29)
  have x0 : ((w.alloc (.cells #[.int .i64 e, .slice A n k] 27)).alloc (.cells #[.int .i64 st, .int .i64 sm, .bool ls] 29)).cell? ⟨w.heap.size, 0, none⟩ = some (.int .i64 e) := kst hx2 (by omega) (by rw [cell_of_row _ _ _ _ _ _ (heap_alloc_new w _)]; rfl)
  have x1 : ((w.alloc (.cells #[.int .i64 e, .slice A n k] 27)).alloc (.cells #[.int .i64 st, .int .i64 sm, .bool ls] 29)).cell? ⟨w.heap.size, 1, none⟩ = some (.slice A n k) := kst hx2 (by omega) (by rw [cell_of_row _ _ _ _ _ _ (heap_alloc_new w _)]; rfl)
  have TT := three_new (w.alloc (.cells #[.int .i64 e, .slice A n k] 27)) (.int .i64 st) (.int .i64 sm) (.bool ls) 29
  rw [s1] at TT
  have hx := kal (bl w (.cells #[.int .i64 e, .slice A n k] 27)) (.cells #[.int .i64 st, .int .i64 sm, .bool ls] 29)
  have l1 : w.heap.size + 1 < ((w.alloc (.cells #[.int .i64 e, .slice A n k] 27)).alloc (.cells #[.int .i64 st, .int .i64 sm, .bool ls] 29)).heap.size := by simp
  clear s1 hx2
  go_enter Try.func9, Try.ntmps9
  go_upto_region 1 with fail
  generalize ((w.alloc (.cells #[.int .i64 e, .slice A n k] 27)).alloc (.cells #[.int .i64 st, .int .i64 sm, .bool ls] 29)) = w0 at *
  obtain ⟨t0, t1, t2, -, -, -⟩ := id TT
  go_upto_region 2 with (go_at_call 26; (with_reducible refine (HP.out _ hx).mono ?_); rintro e w1 ⟨⟨Y, y, rfl, hs⟩, hb1⟩)
  have TT1 := TT.keep hb1 l1
  have HB := bt hx hb1
  have HS := Lib.hid hs
  have lw := hx.size
  clear hs hb1 hx x0 x1 HP TT t0 t1 t2
  obtain ⟨t0, t1, t2, -, -, -⟩ := id TT1
  obtain ⟨Y', y', hv, h1, h2, hsl, -⟩ := id HS.out.form
  simp only [Value.slice.injEq] at hv
  obtain ⟨rfl, -, rfl⟩ := hv
  have HF := Lib.hid (show ∀ m, Calls Try.prog 27 #[.slice Y (8 : Nat) y] (w1.drewN m) fun e w' => e = .returned (.int .i64 S) ∧ ∃ m, w' = w1.drewN m from fun m => by
    have h9 := crc.of_any Y y _ L (w1.drewN m) (hsl.below (below_dn (Below.refl _ _) m)) (by omega)
    rw [hL, ← hS] at h9
    exact h9.mono fun e w' h => ⟨h.1, m, h.2.symm⟩)
  have HLL := Lib.hid hL
  have HSS := Lib.hid hS
  clear hsl h1 h2 hL hS
  cases c
  case true =>
    have i2 : (S != sm) = false := by rw [hc.1 rfl]; exact bne_self_eq_false _
    clear hc
    go_quiet (exact HF.out _)
    go_wp2
    refine bodyPost_ret (v := .tuple #[.slice Y (8 : Nat) y, .bool true]) (by simp [results, Try.results9, go_sem]) rfl ⟨⟨Y, y, ?_, (HS.out.less lw).below (below_dn (Below.refl _ _) _)⟩, below_dn HB _⟩
    rw [part_yes, HLL.out]
  case false =>
    have i2 : (S != sm) = true := bne_iff_ne.2 fun h => Bool.false_ne_true (hc.2 h)
    clear hc
    go_quiet (exact HF.out _)
    go_wp2
    exact bodyPost_ret (v := .tuple #[.slice none 0 0, .bool false]) (by simp [results, Try.results9, go_sem]) rfl ⟨⟨none, 0, rfl, own_nil _ _ _⟩, below_dn HB _⟩
/-- What block a reading says, of an entry. -/
theorem block_c (c : Bool) (e addr st sm : Int) (ls : Bool) (A : Option Addr) (n k : Nat) (b : List UInt8) (w : World) (hn : b.length = n) (hk : n ≤ k) (hm : k ≤ maxLen) (hA : Sl w w.heap.size A b) (hc : c = true ↔ BlkB e b addr st sm) :
    Calls Try.prog 9 #[.agg #[.int .i64 e, .slice A n k], .int .i64 addr, .agg #[.int .i64 st, .int .i64 sm, .bool ls]] w fun e w' => BytB w.heap.size (part c (opened b).load) c e w' ∧ Below w.heap.size w w' := by
  by_cases hs : SayB e b addr st
  case neg =>
    obtain rfl : c = false := by cases c; rfl; exact absurd (hc.1 rfl).1 hs
    exact blk_none e addr st sm ls A n k w fun W hW => pay_c false e addr st A n k b W hn hk hm (hA.next hW) (iff_of_false Bool.false_ne_true hs)
  have cP := fun W (hW : Below w.heap.size w W) => pay_c true e addr st A n k b W hn hk hm (hA.next hW) (iff_of_true rfl hs)
  by_cases hl : (opened b).load.length = 8
  · refine blk_sum c e addr st sm _ ls A n k (opened b).load w hl rfl (hc.trans ⟨fun h => h.2.2, fun h => ⟨hs, hl, h⟩⟩) cP
  · obtain rfl : c = false := by cases c; rfl; exact absurd (hc.1 rfl).2.1 hl
    exact blk_len e addr st sm ls A n k _ (opened b).load w rfl hl cP
end Go.Proofs.Ytejfehkcjcohdaa.ent
