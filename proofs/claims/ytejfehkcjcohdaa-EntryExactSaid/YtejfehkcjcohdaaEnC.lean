/-
  Package entry, the document's answers: what sector, what block, what table a reading says. Conditions: none.
-/
import Derived.Test.YtejfehkcjcohdaaEnB
namespace Go.Proofs.Ytejfehkcjcohdaa.ent
open Go.RowKit Go.Lib
open Go.Proofs.Ytejfehkcjcohdaa.gmt (Ok)
open Go.Proofs.Ytejfehkcjcohdaa.anc (bl kal kst ks bm ka)
open Go.Proofs.Ytejfehkcjcohdaa.sel (Three three_new Lies opened Opn no opened_err enc enc_opened open_any)
open Go.Proofs.Ytejfehkcjcohdaa.tbl (Ent EntOk entsN TV C1 c1_new G5 g5_new TbE)
open Go.Proofs.Ytejfehkcjcohdaa.tbl (RdT noTV noTV_own)

/-- A sector, and whether. -/
def SecR (base : Nat) (r : Opn) (c : Bool) (e : Ending) (w' : World) : Prop := if c = true then SecQ base r e w' else SecNo e
theorem rsec_c (c : Bool) (e addr : Int) (A : Option Addr) (n k : Nat) (b : List UInt8) (w : World) (hn : b.length = n) (hk : n ≤ k) (hA : Sl w w.heap.size A b) (hc : c = true ↔ e = 0 ∧ (opened b).err = 0 ∧ ((opened b).addr : Int) = addr) :
    Calls Try.prog 28 #[.agg #[.int .i64 e, .slice A n k], .int .i64 addr] w fun e w' => SecR w.heap.size (opened b) c e w' ∧ Below w.heap.size w w' := by
  cases c
  case true =>
    obtain ⟨h0, h1, h2⟩ := hc.1 rfl
    exact rsector_yes e addr A n k b w hn hk hA h1 h2 h0
  case false =>
    by_cases h0 : e = 0
    · exact rsector_no e addr A n k b w hn hk hA (fun h => Bool.false_ne_true (hc.2 ⟨h0, h⟩)) h0
    · exact rsector_err e addr A n k w h0
set_option maxRecDepth 100000 in
set_option maxHeartbeats 8000000 in
theorem rblk_none (e addr st sm : Int) (ls : Bool) (A : Option Addr) (n k : Nat) (w : World) (cS : ∀ W, Below w.heap.size w W → Calls Try.prog 28 #[.agg #[.int .i64 e, .slice A n k], .int .i64 addr] W fun e w' => SecNo e ∧ Below W.heap.size W w') :
    Calls Try.prog 10 #[.agg #[.int .i64 e, .slice A n k], .int .i64 addr, .agg #[.int .i64 st, .int .i64 sm, .bool ls]] w fun e w' => BytB w.heap.size [] false e w' ∧ Below w.heap.size w w' := by
  have HS := Lib.hid cS
  clear cS
  have s1 : (w.alloc (.cells #[.int .i64 e, .slice A n k] 27)).heap.size = w.heap.size + 1 := by simp
  have hx2 := bl (w.alloc (.cells #[.int .i64 e, .slice A n k] 27)) (.cells #[.int .i64 st, .int .i64 sm, .bool ls] 29)
  have x0 : ((w.alloc (.cells #[.int .i64 e, .slice A n k] 27)).alloc (.cells #[.int .i64 st, .int .i64 sm, .bool ls] 29)).cell? ⟨w.heap.size, 0, none⟩ = some (.int .i64 e) := kst hx2 (by omega) (by rw [cell_of_row _ _ _ _ _ _ (heap_alloc_new w _)]; rfl)
  have x1 : ((w.alloc (.cells #[.int .i64 e, .slice A n k] 27)).alloc (.cells #[.int .i64 st, .int .i64 sm, .bool ls] 29)).cell? ⟨w.heap.size, 1, none⟩ = some (.slice A n k) := kst hx2 (by omega) (by rw [cell_of_row _ _ _ _ _ _ (heap_alloc_new w _)]; rfl)
  have TT := three_new (w.alloc (.cells #[.int .i64 e, .slice A n k] 27)) (.int .i64 st) (.int .i64 sm) (.bool ls) 29
  rw [s1] at TT
  have hx := kal (bl w (.cells #[.int .i64 e, .slice A n k] 27)) (.cells #[.int .i64 st, .int .i64 sm, .bool ls] 29)
  have l1 : w.heap.size + 1 < ((w.alloc (.cells #[.int .i64 e, .slice A n k] 27)).alloc (.cells #[.int .i64 st, .int .i64 sm, .bool ls] 29)).heap.size := by simp
  clear s1 hx2
  go_enter Try.func10, Try.ntmps10
  go_upto_region 1 with fail
  generalize ((w.alloc (.cells #[.int .i64 e, .slice A n k] 27)).alloc (.cells #[.int .i64 st, .int .i64 sm, .bool ls] 29)) = w0 at *
  obtain ⟨t0, t1, t2, -, -, -⟩ := id TT
  go_upto_region 2 with (go_at_call 28; (with_reducible refine (HS.out _ hx).mono ?_); rintro e w1 ⟨rfl, hb1⟩)
  have hxS := bl w1 (.cells #[.int .i64 0, .int .i64 0, .slice none 0 0] 51)
  have SS := three_new w1 (.int .i64 0) (.int .i64 0) (.slice none 0 0) 51
  have TT1 := (TT.keep hb1 l1).keep hxS (Nat.lt_of_lt_of_le l1 hb1.size)
  have HB := bt (bt hx hb1) hxS
  have lw := hx.size
  clear hb1 hx x0 x1 HS TT t0 t1 t2 hxS
  generalize w1.alloc (.cells #[.int .i64 0, .int .i64 0, .slice none 0 0] 51) = w2 at *
  obtain ⟨t0, t1, t2, -, -, -⟩ := id TT1
  obtain ⟨s0, s1, s2, -, -, -⟩ := id SS
  go_quiet (fail)
  go_wp2
  exact bodyPost_ret (v := .tuple #[.slice none 0 0, .bool false]) (by simp [results, Try.results10, go_sem]) rfl ⟨⟨none, 0, rfl, own_nil _ _ _⟩, below_dn HB _⟩
set_option maxRecDepth 100000 in
set_option maxHeartbeats 8000000 in
theorem rblk_st (e addr st sm : Int) (ls : Bool) (A : Option Addr) (n k : Nat) (r : Opn) (w : World) (h : ¬ ((r.stamp : Int) = st ∧ r.load.length = 8)) (cS : ∀ W, Below w.heap.size w W → Calls Try.prog 28 #[.agg #[.int .i64 e, .slice A n k], .int .i64 addr] W fun e w' => SecQ W.heap.size r e w' ∧ Below W.heap.size W w') :
    Calls Try.prog 10 #[.agg #[.int .i64 e, .slice A n k], .int .i64 addr, .agg #[.int .i64 st, .int .i64 sm, .bool ls]] w fun e w' => BytB w.heap.size [] false e w' ∧ Below w.heap.size w w' := by
  have HS := Lib.hid cS
  have q : ((r.stamp : Int) != st) = true ∨ ((r.stamp : Int) != st) = false ∧ ((r.load.length : Int) != 8) = true := by
    by_cases h1 : (r.stamp : Int) = st
    · exact .inr ⟨by rw [h1]; exact bne_self_eq_false _, bne_iff_ne.2 fun k => h ⟨h1, by omega⟩⟩
    · exact .inl (bne_iff_ne.2 h1)
  clear cS h
  have s1 : (w.alloc (.cells #[.int .i64 e, .slice A n k] 27)).heap.size = w.heap.size + 1 := by simp
  have hx2 := bl (w.alloc (.cells #[.int .i64 e, .slice A n k] 27)) (.cells #[.int .i64 st, .int .i64 sm, .bool ls] 29)
  have x0 : ((w.alloc (.cells #[.int .i64 e, .slice A n k] 27)).alloc (.cells #[.int .i64 st, .int .i64 sm, .bool ls] 29)).cell? ⟨w.heap.size, 0, none⟩ = some (.int .i64 e) := kst hx2 (by omega) (by rw [cell_of_row _ _ _ _ _ _ (heap_alloc_new w _)]; rfl)
  have x1 : ((w.alloc (.cells #[.int .i64 e, .slice A n k] 27)).alloc (.cells #[.int .i64 st, .int .i64 sm, .bool ls] 29)).cell? ⟨w.heap.size, 1, none⟩ = some (.slice A n k) := kst hx2 (by omega) (by rw [cell_of_row _ _ _ _ _ _ (heap_alloc_new w _)]; rfl)
  have TT := three_new (w.alloc (.cells #[.int .i64 e, .slice A n k] 27)) (.int .i64 st) (.int .i64 sm) (.bool ls) 29
  rw [s1] at TT
  have hx := kal (bl w (.cells #[.int .i64 e, .slice A n k] 27)) (.cells #[.int .i64 st, .int .i64 sm, .bool ls] 29)
  have l1 : w.heap.size + 1 < ((w.alloc (.cells #[.int .i64 e, .slice A n k] 27)).alloc (.cells #[.int .i64 st, .int .i64 sm, .bool ls] 29)).heap.size := by simp
  clear s1 hx2
  go_enter Try.func10, Try.ntmps10
  go_upto_region 1 with fail
  generalize ((w.alloc (.cells #[.int .i64 e, .slice A n k] 27)).alloc (.cells #[.int .i64 st, .int .i64 sm, .bool ls] 29)) = w0 at *
  obtain ⟨t0, t1, t2, -, -, -⟩ := id TT
  go_upto_region 2 with (go_at_call 28; (with_reducible refine (HS.out _ hx).mono ?_); rintro e w1 ⟨⟨Y, y, rfl, ho⟩, hb1⟩)
  have hxS := bl w1 (.cells #[.int .i64 r.addr, .int .i64 r.stamp, .slice Y r.load.length y] 51)
  have SS := three_new w1 (.int .i64 r.addr) (.int .i64 r.stamp) (.slice Y r.load.length y) 51
  have TT1 := (TT.keep hb1 l1).keep hxS (Nat.lt_of_lt_of_le l1 hb1.size)
  have HB := bt (bt hx hb1) hxS
  have lw := hx.size
  have HO := Lib.hid (ho.below hxS)
  clear ho
  clear hb1 hx x0 x1 HS TT t0 t1 t2 hxS
  generalize w1.alloc (.cells #[.int .i64 r.addr, .int .i64 r.stamp, .slice Y r.load.length y] 51) = w2 at *
  obtain ⟨t0, t1, t2, -, -, -⟩ := id TT1
  obtain ⟨s0, s1, s2, -, -, -⟩ := id SS
  rcases q with q | ⟨q, q2⟩
  all_goals
    go_quiet (fail)
    go_wp2
    exact bodyPost_ret (v := .tuple #[.slice none 0 0, .bool false]) (by simp [results, Try.results10, go_sem]) rfl ⟨⟨none, 0, rfl, own_nil _ _ _⟩, below_dn HB _⟩
set_option maxRecDepth 100000 in
set_option maxHeartbeats 8000000 in
theorem rblk_sum (c : Bool) (e addr st sm S : Int) (ls : Bool) (A : Option Addr) (n k : Nat) (r : Opn) (w : World) (h1 : (r.stamp : Int) = st) (h8 : r.load.length = 8) (hS : S = ((crc.sum r.load : Nat) : Int)) (hc : c = true ↔ S = sm) (cS : ∀ W, Below w.heap.size w W → Calls Try.prog 28 #[.agg #[.int .i64 e, .slice A n k], .int .i64 addr] W fun e w' => SecQ W.heap.size r e w' ∧ Below W.heap.size W w') :
    Calls Try.prog 10 #[.agg #[.int .i64 e, .slice A n k], .int .i64 addr, .agg #[.int .i64 st, .int .i64 sm, .bool ls]] w fun e w' => BytB w.heap.size (part c r.load) c e w' ∧ Below w.heap.size w w' := by
  have HS := Lib.hid cS
  have q1 : ((r.stamp : Int) != st) = false := by rw [h1]; exact bne_self_eq_false _
  have q2 : ((r.load.length : Int) != 8) = false := by rw [h8]; rfl
  have HSS := Lib.hid hS
  have H8 := Lib.hid h8
  clear cS h1 hS h8
  have s1 : (w.alloc (.cells #[.int .i64 e, .slice A n k] 27)).heap.size = w.heap.size + 1 := by simp
  have hx2 := bl (w.alloc (.cells #[.int .i64 e, .slice A n k] 27)) (.cells #[.int .i64 st, .int .i64 sm, .bool ls] 29)
  have x0 : ((w.alloc (.cells #[.int .i64 e, .slice A n k] 27)).alloc (.cells #[.int .i64 st, .int .i64 sm, .bool ls] 29)).cell? ⟨w.heap.size, 0, none⟩ = some (.int .i64 e) := kst hx2 (by omega) (by rw [cell_of_row _ _ _ _ _ _ (heap_alloc_new w _)]; rfl)
  have x1 : ((w.alloc (.cells #[.int .i64 e, .slice A n k] 27)).alloc (.cells #[.int .i64 st, .int .i64 sm, .bool ls] 29)).cell? ⟨w.heap.size, 1, none⟩ = some (.slice A n k) := kst hx2 (by omega) (by rw [cell_of_row _ _ _ _ _ _ (heap_alloc_new w _)]; rfl)
  have TT := three_new (w.alloc (.cells #[.int .i64 e, .slice A n k] 27)) (.int .i64 st) (.int .i64 sm) (.bool ls) 29
  rw [s1] at TT
  have hx := kal (bl w (.cells #[.int .i64 e, .slice A n k] 27)) (.cells #[.int .i64 st, .int .i64 sm, .bool ls] 29)
  have l1 : w.heap.size + 1 < ((w.alloc (.cells #[.int .i64 e, .slice A n k] 27)).alloc (.cells #[.int .i64 st, .int .i64 sm, .bool ls] 29)).heap.size := by simp
  clear s1 hx2
  go_enter Try.func10, Try.ntmps10
  go_upto_region 1 with fail
  generalize ((w.alloc (.cells #[.int .i64 e, .slice A n k] 27)).alloc (.cells #[.int .i64 st, .int .i64 sm, .bool ls] 29)) = w0 at *
  obtain ⟨t0, t1, t2, -, -, -⟩ := id TT
  go_upto_region 2 with (go_at_call 28; (with_reducible refine (HS.out _ hx).mono ?_); rintro e w1 ⟨⟨Y, y, rfl, ho⟩, hb1⟩)
  have hxS := bl w1 (.cells #[.int .i64 r.addr, .int .i64 r.stamp, .slice Y r.load.length y] 51)
  have SS := three_new w1 (.int .i64 r.addr) (.int .i64 r.stamp) (.slice Y r.load.length y) 51
  have TT1 := (TT.keep hb1 l1).keep hxS (Nat.lt_of_lt_of_le l1 hb1.size)
  have HB := bt (bt hx hb1) hxS
  have lw := hx.size
  have HO := Lib.hid (ho.below hxS)
  clear ho
  clear hb1 hx x0 x1 HS TT t0 t1 t2 hxS
  generalize w1.alloc (.cells #[.int .i64 r.addr, .int .i64 r.stamp, .slice Y r.load.length y] 51) = w2 at *
  obtain ⟨t0, t1, t2, -, -, -⟩ := id TT1
  obtain ⟨s0, s1, s2, -, -, -⟩ := id SS
  have HF := Lib.hid (show ∀ m, Calls Try.prog 25 #[.slice Y r.load.length y] (w2.drewN m) fun e w' => e = .returned (.int .i64 S) ∧ ∃ m, w' = w2.drewN m from fun m => by
    obtain ⟨Y', y', hv, h1, h2, hsl, -⟩ := id HO.out.form
    simp only [Value.slice.injEq] at hv
    obtain ⟨rfl, -, rfl⟩ := hv
    have h9 := crc.ref_sum Y y _ r.load (w2.drewN m) (hsl.below (below_dn (Below.refl _ _) m)) (by rw [H8.out]; decide)
    rw [← HSS.out] at h9
    exact h9.mono fun e w' h => ⟨h.1, m, h.2.symm⟩)
  cases c
  case true =>
    have i2 : (S != sm) = false := by rw [hc.1 rfl]; exact bne_self_eq_false _
    clear hc
    go_quiet (exact HF.out _)
    go_wp2
    exact bodyPost_ret (v := .tuple #[.slice Y r.load.length y, .bool true]) (by simp [results, Try.results10, go_sem]) rfl ⟨⟨Y, y, rfl, (HO.out.less lw).below (below_dn (Below.refl _ _) _)⟩, below_dn HB _⟩
  case false =>
    have i2 : (S != sm) = true := bne_iff_ne.2 fun h => Bool.false_ne_true (hc.2 h)
    clear hc
    go_quiet (exact HF.out _)
    go_wp2
    exact bodyPost_ret (v := .tuple #[.slice none 0 0, .bool false]) (by simp [results, Try.results10, go_sem]) rfl ⟨⟨none, 0, rfl, own_nil _ _ _⟩, below_dn HB _⟩
/-- What block a reading says, by the document. -/
theorem rblock_c (c : Bool) (e addr st sm : Int) (ls : Bool) (A : Option Addr) (n k : Nat) (b : List UInt8) (w : World) (hn : b.length = n) (hk : n ≤ k) (hA : Sl w w.heap.size A b) (hc : c = true ↔ BlkB e b addr st sm) :
    Calls Try.prog 10 #[.agg #[.int .i64 e, .slice A n k], .int .i64 addr, .agg #[.int .i64 st, .int .i64 sm, .bool ls]] w fun e w' => BytB w.heap.size (part c (opened b).load) c e w' ∧ Below w.heap.size w w' := by
  by_cases hs : e = 0 ∧ (opened b).err = 0 ∧ ((opened b).addr : Int) = addr
  case neg =>
    obtain rfl : c = false := by cases c; rfl; have h := (hc.1 rfl).1; exact absurd ⟨h.1, h.2.1, h.2.2.1⟩ hs
    exact rblk_none e addr st sm ls A n k w fun W hW => rsec_c false e addr A n k b W hn hk (hA.next hW) (iff_of_false Bool.false_ne_true hs)
  have cS := fun W (hW : Below w.heap.size w W) => rsec_c true e addr A n k b W hn hk (hA.next hW) (iff_of_true rfl hs)
  by_cases h2 : ((opened b).stamp : Int) = st ∧ (opened b).load.length = 8
  · exact rblk_sum c e addr st sm _ ls A n k (opened b) w h2.1 h2.2 rfl (hc.trans ⟨fun h => h.2.2, fun h => ⟨⟨hs.1, hs.2.1, hs.2.2, h2.1⟩, h2.2, h⟩⟩) cS
  · obtain rfl : c = false := by cases c; rfl; have h := hc.1 rfl; exact absurd ⟨h.1.2.2.2, h.2.1⟩ h2
    exact rblk_st e addr st sm ls A n k (opened b) w h2 cS
set_option maxRecDepth 100000 in
set_option maxHeartbeats 8000000 in
theorem rtab_none (z d s l a e addr root : Int) (A : Option Addr) (n k : Nat) (w : World) (cS : ∀ W, Below w.heap.size w W → Calls Try.prog 28 #[.agg #[.int .i64 e, .slice A n k], .int .i64 addr] W fun e w' => SecNo e ∧ Below W.heap.size W w') :
    Calls Try.prog 15 #[.agg #[.int .i64 z, .int .i64 d, .int .i64 s, .int .i64 l, .int .i64 a], .agg #[.int .i64 e, .slice A n k], .int .i64 addr, .int .i64 root] w fun e w' => RdT w.heap.size [] false e w' ∧ Below w.heap.size w w' := by
  have HS := Lib.hid cS
  clear cS
  have s1 : (w.alloc (.cells #[.int .i64 z, .int .i64 d, .int .i64 s, .int .i64 l, .int .i64 a] 23)).heap.size = w.heap.size + 1 := by simp
  have s2 : ((w.alloc (.cells #[.int .i64 z, .int .i64 d, .int .i64 s, .int .i64 l, .int .i64 a] 23)).alloc (.cells #[.int .i64 e, .slice A n k] 27)).heap.size = w.heap.size + 2 := by simp
  have hx2 := bl (w.alloc (.cells #[.int .i64 z, .int .i64 d, .int .i64 s, .int .i64 l, .int .i64 a] 23)) (.cells #[.int .i64 e, .slice A n k] 27)
  have hx3 := bl ((w.alloc (.cells #[.int .i64 z, .int .i64 d, .int .i64 s, .int .i64 l, .int .i64 a] 23)).alloc (.cells #[.int .i64 e, .slice A n k] 27)) (.cells #[.slice none 0 0] 36)
  have GG := ((g5_new w z d s l a).keep hx2 (by omega)).keep hx3 (by omega)
  have GX : ((w.alloc (.cells #[.int .i64 z, .int .i64 d, .int .i64 s, .int .i64 l, .int .i64 a] 23)).alloc (.cells #[.int .i64 e, .slice A n k] 27)).heap[w.heap.size + 1]? = some (.cells #[.int .i64 e, .slice A n k] 27) := by rw [← s1]; exact heap_alloc_new _ _
  have x0 : (((w.alloc (.cells #[.int .i64 z, .int .i64 d, .int .i64 s, .int .i64 l, .int .i64 a] 23)).alloc (.cells #[.int .i64 e, .slice A n k] 27)).alloc (.cells #[.slice none 0 0] 36)).cell? ⟨w.heap.size + 1, 0, none⟩ = some (.int .i64 e) := kst hx3 (by omega) (by rw [cell_of_row _ _ _ _ _ _ GX]; rfl)
  have x1 : (((w.alloc (.cells #[.int .i64 z, .int .i64 d, .int .i64 s, .int .i64 l, .int .i64 a] 23)).alloc (.cells #[.int .i64 e, .slice A n k] 27)).alloc (.cells #[.slice none 0 0] 36)).cell? ⟨w.heap.size + 1, 1, none⟩ = some (.slice A n k) := kst hx3 (by omega) (by rw [cell_of_row _ _ _ _ _ _ GX]; rfl)
  have PP := c1_new ((w.alloc (.cells #[.int .i64 z, .int .i64 d, .int .i64 s, .int .i64 l, .int .i64 a] 23)).alloc (.cells #[.int .i64 e, .slice A n k] 27)) (.slice none 0 0) 36
  rw [s2] at PP
  have hx := kal (kal (bl w (.cells #[.int .i64 z, .int .i64 d, .int .i64 s, .int .i64 l, .int .i64 a] 23)) (.cells #[.int .i64 e, .slice A n k] 27)) (.cells #[.slice none 0 0] 36)
  have l2 : w.heap.size + 2 < (((w.alloc (.cells #[.int .i64 z, .int .i64 d, .int .i64 s, .int .i64 l, .int .i64 a] 23)).alloc (.cells #[.int .i64 e, .slice A n k] 27)).alloc (.cells #[.slice none 0 0] 36)).heap.size := by simp
  clear s1 s2 hx2 hx3 GX
  go_enter Try.func15, Try.ntmps15
  go_upto_region 1 with fail
  generalize (((w.alloc (.cells #[.int .i64 z, .int .i64 d, .int .i64 s, .int .i64 l, .int .i64 a] 23)).alloc (.cells #[.int .i64 e, .slice A n k] 27)).alloc (.cells #[.slice none 0 0] 36)) = w0 at *
  go_upto_region 2 with (go_at_call 28; (with_reducible refine (HS.out _ hx).mono ?_); rintro e w1 ⟨rfl, hb1⟩)
  have hxS := bl w1 (.cells #[.int .i64 0, .int .i64 0, .slice none 0 0] 51)
  have SS := three_new w1 (.int .i64 0) (.int .i64 0) (.slice none 0 0) 51
  have PP1 := (PP.keep hb1 l2).keep hxS (Nat.lt_of_lt_of_le l2 hb1.size)
  have GG1 := (GG.keep hb1 (by omega)).keep hxS (by have := hb1.size; omega)
  have HB := bt (bt hx hb1) hxS
  have lw := hx.size
  replace l2 : w.heap.size + 2 < w1.heap.size := Nat.lt_of_lt_of_le l2 hb1.size
  have l3 : w1.heap.size < (w1.alloc (.cells #[.int .i64 0, .int .i64 0, .slice none 0 0] 51)).heap.size := by simp
  clear hb1 hx x0 x1 HS PP GG hxS
  generalize hgs : w1.heap.size = gs at *
  clear hgs
  generalize w1.alloc (.cells #[.int .i64 0, .int .i64 0, .slice none 0 0] 51) = w2 at *
  obtain ⟨s0, s1, s2, -, -, -⟩ := id SS
  have p0 := PP1.c0
  have f0 := PP1.f0
  go_wp2_with fail
  have k7 := PP1.set (.slice none 0 0)
  exact bodyPost_ret (v := .tuple #[.agg #[.slice none 0 0], .bool false]) (by simp [results, Try.results15, go_sem, k7.c0]) rfl ⟨⟨noTV, rfl, rfl, noTV_own _ _⟩, HB.setCell (p := ⟨w.heap.size + 2, 0, none⟩) (by show w.heap.size ≤ w.heap.size + 2; omega) _⟩
set_option maxRecDepth 100000 in
set_option maxHeartbeats 8000000 in
theorem rtab_st (z d s l a e addr root : Int) (A : Option Addr) (n k : Nat) (r : Opn) (w : World) (h : ¬ (r.stamp : Int) = root) (cS : ∀ W, Below w.heap.size w W → Calls Try.prog 28 #[.agg #[.int .i64 e, .slice A n k], .int .i64 addr] W fun e w' => SecQ W.heap.size r e w' ∧ Below W.heap.size W w') :
    Calls Try.prog 15 #[.agg #[.int .i64 z, .int .i64 d, .int .i64 s, .int .i64 l, .int .i64 a], .agg #[.int .i64 e, .slice A n k], .int .i64 addr, .int .i64 root] w fun e w' => RdT w.heap.size [] false e w' ∧ Below w.heap.size w w' := by
  have HS := Lib.hid cS
  have q : ((r.stamp : Int) != root) = true := bne_iff_ne.2 h
  clear cS h
  have s1 : (w.alloc (.cells #[.int .i64 z, .int .i64 d, .int .i64 s, .int .i64 l, .int .i64 a] 23)).heap.size = w.heap.size + 1 := by simp
  have s2 : ((w.alloc (.cells #[.int .i64 z, .int .i64 d, .int .i64 s, .int .i64 l, .int .i64 a] 23)).alloc (.cells #[.int .i64 e, .slice A n k] 27)).heap.size = w.heap.size + 2 := by simp
  have hx2 := bl (w.alloc (.cells #[.int .i64 z, .int .i64 d, .int .i64 s, .int .i64 l, .int .i64 a] 23)) (.cells #[.int .i64 e, .slice A n k] 27)
  have hx3 := bl ((w.alloc (.cells #[.int .i64 z, .int .i64 d, .int .i64 s, .int .i64 l, .int .i64 a] 23)).alloc (.cells #[.int .i64 e, .slice A n k] 27)) (.cells #[.slice none 0 0] 36)
  have GG := ((g5_new w z d s l a).keep hx2 (by omega)).keep hx3 (by omega)
  have GX : ((w.alloc (.cells #[.int .i64 z, .int .i64 d, .int .i64 s, .int .i64 l, .int .i64 a] 23)).alloc (.cells #[.int .i64 e, .slice A n k] 27)).heap[w.heap.size + 1]? = some (.cells #[.int .i64 e, .slice A n k] 27) := by rw [← s1]; exact heap_alloc_new _ _
  have x0 : (((w.alloc (.cells #[.int .i64 z, .int .i64 d, .int .i64 s, .int .i64 l, .int .i64 a] 23)).alloc (.cells #[.int .i64 e, .slice A n k] 27)).alloc (.cells #[.slice none 0 0] 36)).cell? ⟨w.heap.size + 1, 0, none⟩ = some (.int .i64 e) := kst hx3 (by omega) (by rw [cell_of_row _ _ _ _ _ _ GX]; rfl)
  have x1 : (((w.alloc (.cells #[.int .i64 z, .int .i64 d, .int .i64 s, .int .i64 l, .int .i64 a] 23)).alloc (.cells #[.int .i64 e, .slice A n k] 27)).alloc (.cells #[.slice none 0 0] 36)).cell? ⟨w.heap.size + 1, 1, none⟩ = some (.slice A n k) := kst hx3 (by omega) (by rw [cell_of_row _ _ _ _ _ _ GX]; rfl)
  have PP := c1_new ((w.alloc (.cells #[.int .i64 z, .int .i64 d, .int .i64 s, .int .i64 l, .int .i64 a] 23)).alloc (.cells #[.int .i64 e, .slice A n k] 27)) (.slice none 0 0) 36
  rw [s2] at PP
  have hx := kal (kal (bl w (.cells #[.int .i64 z, .int .i64 d, .int .i64 s, .int .i64 l, .int .i64 a] 23)) (.cells #[.int .i64 e, .slice A n k] 27)) (.cells #[.slice none 0 0] 36)
  have l2 : w.heap.size + 2 < (((w.alloc (.cells #[.int .i64 z, .int .i64 d, .int .i64 s, .int .i64 l, .int .i64 a] 23)).alloc (.cells #[.int .i64 e, .slice A n k] 27)).alloc (.cells #[.slice none 0 0] 36)).heap.size := by simp
  clear s1 s2 hx2 hx3 GX
  go_enter Try.func15, Try.ntmps15
  go_upto_region 1 with fail
  generalize (((w.alloc (.cells #[.int .i64 z, .int .i64 d, .int .i64 s, .int .i64 l, .int .i64 a] 23)).alloc (.cells #[.int .i64 e, .slice A n k] 27)).alloc (.cells #[.slice none 0 0] 36)) = w0 at *
  go_upto_region 2 with (go_at_call 28; (with_reducible refine (HS.out _ hx).mono ?_); rintro e w1 ⟨⟨Y, y, rfl, ho⟩, hb1⟩)
  have hxS := bl w1 (.cells #[.int .i64 r.addr, .int .i64 r.stamp, .slice Y r.load.length y] 51)
  have SS := three_new w1 (.int .i64 r.addr) (.int .i64 r.stamp) (.slice Y r.load.length y) 51
  have PP1 := (PP.keep hb1 l2).keep hxS (Nat.lt_of_lt_of_le l2 hb1.size)
  have GG1 := (GG.keep hb1 (by omega)).keep hxS (by have := hb1.size; omega)
  have HB := bt (bt hx hb1) hxS
  have lw := hx.size
  replace l2 : w.heap.size + 2 < w1.heap.size := Nat.lt_of_lt_of_le l2 hb1.size
  have l3 : w1.heap.size < (w1.alloc (.cells #[.int .i64 r.addr, .int .i64 r.stamp, .slice Y r.load.length y] 51)).heap.size := by simp
  have HO := Lib.hid (ho.below hxS)
  clear ho
  clear hb1 hx x0 x1 HS PP GG hxS
  generalize hgs : w1.heap.size = gs at *
  clear hgs
  generalize w1.alloc (.cells #[.int .i64 r.addr, .int .i64 r.stamp, .slice Y r.load.length y] 51) = w2 at *
  obtain ⟨s0, s1, s2, -, -, -⟩ := id SS
  have p0 := PP1.c0
  have f0 := PP1.f0
  go_wp2_with fail
  have k7 := PP1.set (.slice none 0 0)
  exact bodyPost_ret (v := .tuple #[.agg #[.slice none 0 0], .bool false]) (by simp [results, Try.results15, go_sem, k7.c0]) rfl ⟨⟨noTV, rfl, rfl, noTV_own _ _⟩, HB.setCell (p := ⟨w.heap.size + 2, 0, none⟩) (by show w.heap.size ≤ w.heap.size + 2; omega) _⟩
set_option maxRecDepth 100000 in
set_option maxHeartbeats 8000000 in
theorem rtab_read (c : Bool) (z d s l a e addr root : Int) (es : List Ent) (A : Option Addr) (n k : Nat) (r : Opn) (w : World) (h : (r.stamp : Int) = root) (cS : ∀ W, Below w.heap.size w W → Calls Try.prog 28 #[.agg #[.int .i64 e, .slice A n k], .int .i64 addr] W fun e w' => SecQ W.heap.size r e w' ∧ Below W.heap.size W w')
    (cR : ∀ (W : World) (Y : Option Addr) (y : Nat), Below w.heap.size w W → Sl W W.heap.size Y r.load → r.load.length ≤ y → y ≤ maxLen → Calls Try.prog 31 #[.agg #[.int .i64 z, .int .i64 d, .int .i64 s, .int .i64 l, .int .i64 a], .slice Y r.load.length y] W fun e w' => RdT W.heap.size es c e w' ∧ Below W.heap.size W w') :
    Calls Try.prog 15 #[.agg #[.int .i64 z, .int .i64 d, .int .i64 s, .int .i64 l, .int .i64 a], .agg #[.int .i64 e, .slice A n k], .int .i64 addr, .int .i64 root] w fun e w' => RdT w.heap.size es c e w' ∧ Below w.heap.size w w' := by
  have HS := Lib.hid cS
  have HR := Lib.hid cR
  have q : ((r.stamp : Int) != root) = false := by rw [h]; exact bne_self_eq_false _
  clear cS cR h
  have s1 : (w.alloc (.cells #[.int .i64 z, .int .i64 d, .int .i64 s, .int .i64 l, .int .i64 a] 23)).heap.size = w.heap.size + 1 := by simp
  have s2 : ((w.alloc (.cells #[.int .i64 z, .int .i64 d, .int .i64 s, .int .i64 l, .int .i64 a] 23)).alloc (.cells #[.int .i64 e, .slice A n k] 27)).heap.size = w.heap.size + 2 := by simp
  have hx2 := bl (w.alloc (.cells #[.int .i64 z, .int .i64 d, .int .i64 s, .int .i64 l, .int .i64 a] 23)) (.cells #[.int .i64 e, .slice A n k] 27)
  have hx3 := bl ((w.alloc (.cells #[.int .i64 z, .int .i64 d, .int .i64 s, .int .i64 l, .int .i64 a] 23)).alloc (.cells #[.int .i64 e, .slice A n k] 27)) (.cells #[.slice none 0 0] 36)
  have GG := ((g5_new w z d s l a).keep hx2 (by omega)).keep hx3 (by omega)
  have GX : ((w.alloc (.cells #[.int .i64 z, .int .i64 d, .int .i64 s, .int .i64 l, .int .i64 a] 23)).alloc (.cells #[.int .i64 e, .slice A n k] 27)).heap[w.heap.size + 1]? = some (.cells #[.int .i64 e, .slice A n k] 27) := by rw [← s1]; exact heap_alloc_new _ _
  have x0 : (((w.alloc (.cells #[.int .i64 z, .int .i64 d, .int .i64 s, .int .i64 l, .int .i64 a] 23)).alloc (.cells #[.int .i64 e, .slice A n k] 27)).alloc (.cells #[.slice none 0 0] 36)).cell? ⟨w.heap.size + 1, 0, none⟩ = some (.int .i64 e) := kst hx3 (by omega) (by rw [cell_of_row _ _ _ _ _ _ GX]; rfl)
  have x1 : (((w.alloc (.cells #[.int .i64 z, .int .i64 d, .int .i64 s, .int .i64 l, .int .i64 a] 23)).alloc (.cells #[.int .i64 e, .slice A n k] 27)).alloc (.cells #[.slice none 0 0] 36)).cell? ⟨w.heap.size + 1, 1, none⟩ = some (.slice A n k) := kst hx3 (by omega) (by rw [cell_of_row _ _ _ _ _ _ GX]; rfl)
  have PP := c1_new ((w.alloc (.cells #[.int .i64 z, .int .i64 d, .int .i64 s, .int .i64 l, .int .i64 a] 23)).alloc (.cells #[.int .i64 e, .slice A n k] 27)) (.slice none 0 0) 36
  rw [s2] at PP
  have hx := kal (kal (bl w (.cells #[.int .i64 z, .int .i64 d, .int .i64 s, .int .i64 l, .int .i64 a] 23)) (.cells #[.int .i64 e, .slice A n k] 27)) (.cells #[.slice none 0 0] 36)
  have l2 : w.heap.size + 2 < (((w.alloc (.cells #[.int .i64 z, .int .i64 d, .int .i64 s, .int .i64 l, .int .i64 a] 23)).alloc (.cells #[.int .i64 e, .slice A n k] 27)).alloc (.cells #[.slice none 0 0] 36)).heap.size := by simp
  clear s1 s2 hx2 hx3 GX
  go_enter Try.func15, Try.ntmps15
  go_upto_region 1 with fail
  generalize (((w.alloc (.cells #[.int .i64 z, .int .i64 d, .int .i64 s, .int .i64 l, .int .i64 a] 23)).alloc (.cells #[.int .i64 e, .slice A n k] 27)).alloc (.cells #[.slice none 0 0] 36)) = w0 at *
  go_upto_region 2 with (go_at_call 28; (with_reducible refine (HS.out _ hx).mono ?_); rintro e w1 ⟨⟨Y, y, rfl, ho⟩, hb1⟩)
  have hxS := bl w1 (.cells #[.int .i64 r.addr, .int .i64 r.stamp, .slice Y r.load.length y] 51)
  have SS := three_new w1 (.int .i64 r.addr) (.int .i64 r.stamp) (.slice Y r.load.length y) 51
  have PP1 := (PP.keep hb1 l2).keep hxS (Nat.lt_of_lt_of_le l2 hb1.size)
  have GG1 := (GG.keep hb1 (by omega)).keep hxS (by have := hb1.size; omega)
  have HB := bt (bt hx hb1) hxS
  have lw := hx.size
  replace l2 : w.heap.size + 2 < w1.heap.size := Nat.lt_of_lt_of_le l2 hb1.size
  have l3 : w1.heap.size < (w1.alloc (.cells #[.int .i64 r.addr, .int .i64 r.stamp, .slice Y r.load.length y] 51)).heap.size := by simp
  have HO := Lib.hid (ho.below hxS)
  clear ho
  clear hb1 hx x0 x1 HS PP GG hxS
  generalize hgs : w1.heap.size = gs at *
  clear hgs
  generalize w1.alloc (.cells #[.int .i64 r.addr, .int .i64 r.stamp, .slice Y r.load.length y] 51) = w2 at *
  obtain ⟨s0, s1, s2, -, -, -⟩ := id SS
  have p0 := PP1.c0
  have f0 := PP1.f0
  obtain ⟨Y', y', hv, h1, h2, hsl, -⟩ := id HO.out.form
  simp only [Value.slice.injEq] at hv
  obtain ⟨rfl, -, rfl⟩ := hv
  have HR2 := Lib.hid (HR.out w2 Y y HB hsl h1 h2)
  clear h1 h2 hsl HR
  obtain ⟨g0, g1, g2, g3, g4⟩ := id GG1
  have e8 := fun W (hW : Below w2.heap.size w2 W) => PP1.keep hW (Nat.lt_trans l2 l3)
  have E8 := Lib.hid e8
  clear e8
  go_wp2_with (go_at_call 31; (with_reducible refine HR2.out.mono ?_); rintro e w3 ⟨⟨t, het, hte0, hto⟩, hb3⟩; rw [TV.v] at het; subst het; have hte1 := Lib.hid hte0; clear hte0; obtain ⟨p9, f9⟩ := E8.out _ hb3)
  have PP2 := E8.out _ hb3
  have HB2 := bt HB hb3
  have lb3 := hb3.size
  have k7 := PP2.set (.slice t.A t.es.length t.c)
  exact bodyPost_ret (v := .tuple #[.agg #[.slice t.A t.es.length t.c], .bool c]) (by simp [results, Try.results15, go_sem, k7.c0]) rfl ⟨⟨t, rfl, hte1.out, TV.Own.less (tbl.OwnE.cell_set hto (by omega) _) (by omega)⟩, HB2.setCell (p := ⟨w.heap.size + 2, 0, none⟩) (by show w.heap.size ≤ w.heap.size + 2; omega) _⟩
/-- What table a reading says, by the document. -/
theorem rtable_c (c : Bool) (z d s l a e addr root : Int) (A : Option Addr) (n k : Nat) (b : List UInt8) (w : World) (ho : Ok z d s l a) (hn : b.length = n) (hk : n ≤ k) (hA : Sl w w.heap.size A b) (hc : c = true ↔ TabB d e b addr root) :
    Calls Try.prog 15 #[.agg #[.int .i64 z, .int .i64 d, .int .i64 s, .int .i64 l, .int .i64 a], .agg #[.int .i64 e, .slice A n k], .int .i64 addr, .int .i64 root] w fun e w' => RdT w.heap.size (part c (entsN (opened b).load (d.toNat + 1))) c e w' ∧ Below w.heap.size w w' := by
  by_cases hs : e = 0 ∧ (opened b).err = 0 ∧ ((opened b).addr : Int) = addr
  case neg =>
    obtain rfl : c = false := by cases c; rfl; have h := (hc.1 rfl).1; exact absurd ⟨h.1, h.2.1, h.2.2.1⟩ hs
    exact rtab_none z d s l a e addr root A n k w fun W hW => rsec_c false e addr A n k b W hn hk (hA.next hW) (iff_of_false Bool.false_ne_true hs)
  have cS := fun W (hW : Below w.heap.size w W) => rsec_c true e addr A n k b W hn hk (hA.next hW) (iff_of_true rfl hs)
  by_cases h2 : ((opened b).stamp : Int) = root
  · exact rtab_read c z d s l a e addr root _ A n k (opened b) w h2 cS fun W Y y hW h1 h2' h3 => tbl.rread_tab c z d s l a Y _ y _ W ho rfl h2' h3 h1 (hc.trans ⟨fun h => h.2, fun h => ⟨⟨hs.1, hs.2.1, hs.2.2, h2⟩, h⟩⟩)
  · obtain rfl : c = false := by cases c; rfl; exact absurd (hc.1 rfl).1.2.2.2 h2
    exact rtab_st z d s l a e addr root A n k (opened b) w h2 cS
end Go.Proofs.Ytejfehkcjcohdaa.ent
