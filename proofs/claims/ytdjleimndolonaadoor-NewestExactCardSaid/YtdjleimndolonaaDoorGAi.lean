/-
  anchor.Bytes: an anchor's bytes. Conditions: rows shorter than 2^20; what label.Check and label.Bytes answer of its label is given.
  What Unrow and label.Read come to, as anchor.parse calls them. Conditions: each law's own; 'ValidOk', 'Tabs' as package label's contracts ask.
-/
import Derived.Test.YtdjleimndolonaaDoorGAc
import Derived.Test.YtdjleimndolonaaDoorGAm
import Derived.Test.YtdjleimndolonaaDoorGPk
import Derived.Deep.RegionHeld3
namespace Go.Proofs.YtdjleimndolonaaDoor.anc
open Go.RowKit Go.Lib
open Go.Proofs.YtdjleimndolonaaDoor.gmt (Ok five_new check_ok check_no)
open Go.Proofs.YtdjleimndolonaaDoor.pck (le le_length AllFit Fits Sz bytesOf Rowed row_any)
open Go.Proofs.YtdjleimndolonaaDoor.lbl (encL labE SliceAns lab_len)

/-- A slice of bytes made: q of them, no error. -/
def PutQ (base q : Nat) (l : List UInt8) (e : Ending) (w' : World) : Prop := ∃ X c, e = .returned (.tuple #[.slice X q c, .int .i64 0]) ∧ l.length = q ∧ Own w' base 5 (.slice X q c) l
theorem putq_of {w : World} {base q : Nat} {v : Value} {l : List UInt8} (h : Own w base 5 v l) (hq : l.length = q) : PutQ base q l (.returned (.tuple #[v, .int .i64 0])) w := by
  obtain ⟨A, c, rfl, -⟩ := h.form
  rw [hq] at h ⊢
  exact ⟨A, c, rfl, hq, h⟩
theorem row_q (ns ss : List Int) (n q : Nat) (A A' : Option Addr) (c c' : Nat) (l : List UInt8) (W : World) (hn : ns.length = n) (hs : ss.length = n) (hl : n ≤ 1048576) (hf : AllFit (ns.zip ss)) (hb : bytesOf (ns.zip ss) = l) (hq : l.length = q)
    (hA : SlV W W.heap.size A (ints ns)) (hA' : SlV W W.heap.size A' (ints ss)) :
    Calls Tryd.prog 51 #[.slice A n c, .slice A' n c'] W fun e w' => PutQ W.heap.size q l e w' ∧ Below W.heap.size W w' := by
  refine (row_any n A A' c c' (ns.zip ss) W (by rw [List.length_zip]; omega) hl ?_ ?_).mono ?_
  · rw [show (ns.zip ss).map (·.1) = ns from List.map_fst_zip (by omega)]; exact hA
  · rw [show (ns.zip ss).map (·.2) = ss from List.map_snd_zip (by omega)]; exact hA'
  · rintro e w' ⟨hr, hb'⟩
    refine ⟨?_, hb'⟩
    rcases hr with ⟨-, v, rfl, ho⟩ | ⟨hn, -⟩
    · rw [hb] at ho
      exact putq_of ho hq
    · exact absurd hf hn
theorem fit4 {n : Int} (h : 0 ≤ n ∧ n ≤ 4294967295) : Fits n 4 := ⟨4, n.toNat, rfl, by omega, .inr (.inr rfl), by omega⟩
theorem fit1 {n : Int} (h : 0 ≤ n ∧ n ≤ 255) : Fits n 1 := ⟨1, n.toNat, rfl, by omega, .inl rfl, by omega⟩
theorem allfit_cons {p : Int × Int} {l : List (Int × Int)} (h : Fits p.1 p.2) (k : AllFit l) : AllFit (p :: l) := fun q hq => by
  rcases List.mem_cons.1 hq with rfl | hq
  · exact h
  · exact k q hq
theorem allfit_nil : AllFit [] := fun q hq => by cases hq
theorem head_fit {a : Anc} (h1 : 0 ≤ a.gen ∧ a.gen ≤ 4294967295) (h2 : 0 ≤ a.ep ∧ a.ep ≤ 4294967295) (h3 : 0 ≤ a.seq ∧ a.seq ≤ 4294967295) (h4 : 0 ≤ a.last ∧ a.last ≤ 4294967295) (h5 : 0 ≤ a.pos ∧ a.pos ≤ 255) :
    AllFit ([a.gen, a.ep, a.seq, a.last, a.pos].zip [4, 4, 4, 4, 1]) := allfit_cons (fit4 h1) (allfit_cons (fit4 h2) (allfit_cons (fit4 h3) (allfit_cons (fit4 h4) (allfit_cons (fit1 h5) allfit_nil))))
theorem head_bytes (a : Anc) : bytesOf ([a.gen, a.ep, a.seq, a.last, a.pos].zip [4, 4, 4, 4, 1]) = encN a := by
  simp [bytesOf, encN]
theorem zip_ones (D : Nat) (t : List Int) : ∀ (k : Nat) (ps : List Int), ps.length = k → (ps ++ t).zip (List.replicate k 1 ++ [1, 4]) = (ps.map fun p => (p, (1 : Int))) ++ t.zip [1, 4]
  | 0, ps, h => by
    obtain rfl := List.eq_nil_of_length_eq_zero h
    rfl
  | k + 1, [], h => by cases h
  | k + 1, p :: ps, h => by
    rw [List.replicate_succ, List.cons_append, List.cons_append, List.zip_cons_cons, zip_ones D t k ps (by simpa using h)]
    rfl
theorem sizes_eq (D : Nat) : List.replicate (D + 2) (1 : Int) ++ [4] = List.replicate (D + 1) 1 ++ [1, 4] := by
  rw [List.replicate_succ', List.append_assoc]
  rfl
theorem home_fit {D : Nat} {h : Hom} (hb : HomB D h) : AllFit ((h.ps ++ [h.nx, h.rt]).zip (List.replicate (D + 2) 1 ++ [4])) := by
  obtain ⟨h1, h2, h3, h4⟩ := hb
  rw [sizes_eq, zip_ones D _ _ _ h1]
  intro q hq
  rcases List.mem_append.1 hq with hq | hq
  · obtain ⟨p, hp, rfl⟩ := List.mem_map.1 hq
    have := h2 p hp
    exact fit1 ⟨this.1, by omega⟩
  · exact allfit_cons (fit1 ⟨h3.1, by omega⟩) (allfit_cons (fit4 ⟨h4.1, by omega⟩) allfit_nil) q hq
theorem home_bytes {D : Nat} {h : Hom} (hb : HomB D h) : bytesOf ((h.ps ++ [h.nx, h.rt]).zip (List.replicate (D + 2) 1 ++ [4])) = encH h := by
  obtain ⟨h1, -⟩ := hb
  rw [sizes_eq, zip_ones D _ _ _ h1]
  unfold bytesOf encH
  rw [List.flatMap_append]
  congr 1
  rw [List.flatMap_map]
  rfl
theorem slv_own {w : World} {base n c : Nat} {e : TypeId} {A : Option Addr} {l : List Int} (h : OwnV w base e (.slice A n c) (ints l)) : SlV w w.heap.size A (ints l) := by
  obtain ⟨A', c', hv, -, -, hs, -⟩ := h.form
  simp only [Value.slice.injEq] at hv
  obtain ⟨rfl, -, -⟩ := hv
  exact hs

theorem own_q {w : World} {base q : Nat} {e : TypeId} {v : Value} {l : List UInt8} (h : Own w base e v l) (hq : l.length = q) : ∃ X c, v = .slice X q c ∧ Own w base e (.slice X q c) l := by
  obtain ⟨A, c, rfl, -⟩ := h.form
  rw [hq] at h ⊢
  exact ⟨A, c, rfl, h⟩
theorem ownI_q {w : World} {base q : Nat} {e : TypeId} {v : Value} {l : List Int} (h : OwnV w base e v (ints l)) (hq : l.length = q) : ∃ X c, v = .slice X q c ∧ OwnV w base e (.slice X q c) (ints l) := by
  obtain ⟨A, c, rfl, -⟩ := h.form
  rw [ints_length, hq] at h ⊢
  exact ⟨A, c, rfl, h⟩
/-- Two rows of one's own, the second one made after the first: two blocks. -/
theorem apart_lt {W1 W2 : World} {b1 b2 : Nat} {e1 e2 : TypeId} {v1 v2 : Value} {l1 l2 : List Value} (h1 : OwnV W1 b1 e1 v1 l1) (h2 : OwnV W2 b2 e2 v2 l2) (hb : W1.heap.size ≤ b2) : v1.ownBlock = none ∨ v1.ownBlock ≠ v2.ownBlock := by
  cases hv : v1.ownBlock with
  | none => exact .inl rfl
  | some g =>
    right
    intro he
    have k1 := (World.ownsRow.lt h1 g hv).2
    have k2 := (World.ownsRow.lt h2 g he.symm).1
    omega
theorem apart_gt {W1 W2 : World} {b1 b2 : Nat} {e1 e2 : TypeId} {v1 v2 : Value} {l1 l2 : List Value} (h1 : OwnV W1 b1 e1 v1 l1) (h2 : OwnV W2 b2 e2 v2 l2) (hb : W1.heap.size ≤ b2) : v2.ownBlock = none ∨ v2.ownBlock ≠ v1.ownBlock := by
  rcases apart_lt h1 h2 hb with h | h
  · cases hv : v2.ownBlock with
    | none => exact .inl rfl
    | some g =>
      right
      rw [h]
      exact fun k => by cases k
  · exact .inr (Ne.symm h)
set_option maxRecDepth 100000 in
/-- Of an anchor that is none, or of no geometry: why not. -/
theorem bytes_no (z d s l a n : Int) (x : AV) (w : World) (hn : n ≠ 0) (cC : ∀ W, Below w.heap.size w W → Calls Tryd.prog 48 #[.agg #[.int .i64 z, .int .i64 d, .int .i64 s, .int .i64 l, .int .i64 a], x.v] W fun e w' => e = .returned (.int .i64 n) ∧ Below W.heap.size W w') :
    Calls Tryd.prog 32 #[.agg #[.int .i64 z, .int .i64 d, .int .i64 s, .int .i64 l, .int .i64 a], x.v] w fun e w' => e = .returned (.tuple #[.slice none 0 0, .int .i64 n]) ∧ Below w.heap.size w w' := by
  unfold AV.v at cC ⊢
  have q1 : (n != 0) = true := bne_iff_ne.2 hn
  have GG := (g5_new w z d s l a).keep (bl (w.alloc (.cells #[.int .i64 z, .int .i64 d, .int .i64 s, .int .i64 l, .int .i64 a] 23)) (.cells #[.int .i64 x.gen, .int .i64 x.ep, .int .i64 x.pos, .int .i64 x.seq, .int .i64 x.last, .string x.lab, .slice x.HA x.hs.length x.hc] 31)) (by simp)
  have F := ac_new (w.alloc (.cells #[.int .i64 z, .int .i64 d, .int .i64 s, .int .i64 l, .int .i64 a] 23)) x
  have hb0 := kal (bl w (.cells #[.int .i64 z, .int .i64 d, .int .i64 s, .int .i64 l, .int .i64 a] 23)) (.cells #[.int .i64 x.gen, .int .i64 x.ep, .int .i64 x.pos, .int .i64 x.seq, .int .i64 x.last, .string x.lab, .slice x.HA x.hs.length x.hc] 31)
  rw [show (w.alloc (.cells #[.int .i64 z, .int .i64 d, .int .i64 s, .int .i64 l, .int .i64 a] 23)).heap.size = w.heap.size + 1 by simp] at F
  obtain ⟨c0, c1, c2, c3, c4, c5, c6⟩ := id F
  obtain ⟨g0, g1, g2, g3, g4⟩ := id GG
  clear hn
  go_enter Tryd.func32, Tryd.ntmps32
  go_upto_region 1 with fail
  generalize (w.alloc (.cells #[.int .i64 z, .int .i64 d, .int .i64 s, .int .i64 l, .int .i64 a] 23)).alloc (.cells #[.int .i64 x.gen, .int .i64 x.ep, .int .i64 x.pos, .int .i64 x.seq, .int .i64 x.last, .string x.lab, .slice x.HA x.hs.length x.hc] 31) = w0 at *
  go_wp2_with (go_at_call 48; (with_reducible refine (cC _ hb0).mono ?_); rintro e w1 ⟨rfl, hb1⟩)
  go_ret2
  exact ⟨rfl, bt hb0 hb1⟩

set_option maxRecDepth 100000 in
set_option maxHeartbeats 8000000 in
theorem bytesA_ok (z s l a : Int) (D : Nat) (x : AV) (w : World) (ho : Ok z D s l a) (hx : x.In w w.heap.size) (hk : Good z D s l x.d)
    (cC : ∀ W, Below w.heap.size w W → Calls Tryd.prog 48 #[.agg #[.int .i64 z, .int .i64 D, .int .i64 s, .int .i64 l, .int .i64 a], x.v] W fun e w' => e = .returned (.int .i64 0) ∧ Below W.heap.size W w')
    (cB : ∀ W, Below w.heap.size w W → Calls Tryd.prog 53 #[.string x.lab] W fun e w' => SliceAns W.heap.size (encL x.lab.data.toList) e w' ∧ Below W.heap.size W w') :
    Calls Tryd.prog 32 #[.agg #[.int .i64 z, .int .i64 D, .int .i64 s, .int .i64 l, .int .i64 a], x.v] w fun e w' => PutQ w.heap.size (encA x.d).length (encA x.d) e w' ∧ Below w.heap.size w w' := by
  have hab := good_b ho hk
  have hlen : (x.hs.length : Int) = z := by have := hk.2.2.2.2.2.2.2.1; have e : x.d.hs.length = x.hs.length := hds_length x.hs; rw [e] at this; exact this
  have hlb : x.lab.size ≤ 24 := by have := lab_len hab.2.2.2.2.2.1; rwa [size_list] at this
  have cS := fun W => homeSizes_at z s l a D W ho
  obtain ⟨o1, o2, o3, o4, -⟩ := ho
  obtain ⟨b1, b2, b3, b4, b5, b6, b7, b8⟩ := hab
  rw [Int.toNat_natCast] at b8
  have cR := fun (A A' : Option Addr) (c c' : Nat) (W : World) => row_q _ _ 5 17 A A' c c' _ W rfl rfl (by omega) (head_fit (a := x.d) ⟨b1.1, by omega⟩ ⟨b2.1, by omega⟩ ⟨b3.1, by omega⟩ ⟨b4.1, by omega⟩ ⟨b5.1, by omega⟩) (head_bytes x.d) (encN_len x.d)
  have HR := Lib.hid cR
  clear cR b1 b2 b3 b4 b5 b6 b7 hk
  unfold AV.v at cC ⊢
  have GG := (g5_new w z D s l a).keep (bl (w.alloc (.cells #[.int .i64 z, .int .i64 D, .int .i64 s, .int .i64 l, .int .i64 a] 23)) (.cells #[.int .i64 x.gen, .int .i64 x.ep, .int .i64 x.pos, .int .i64 x.seq, .int .i64 x.last, .string x.lab, .slice x.HA x.hs.length x.hc] 31)) (by simp)
  have F := ac_new (w.alloc (.cells #[.int .i64 z, .int .i64 D, .int .i64 s, .int .i64 l, .int .i64 a] 23)) x
  have hb0 := kal (bl w (.cells #[.int .i64 z, .int .i64 D, .int .i64 s, .int .i64 l, .int .i64 a] 23)) (.cells #[.int .i64 x.gen, .int .i64 x.ep, .int .i64 x.pos, .int .i64 x.seq, .int .i64 x.last, .string x.lab, .slice x.HA x.hs.length x.hc] 31)
  rw [show (w.alloc (.cells #[.int .i64 z, .int .i64 D, .int .i64 s, .int .i64 l, .int .i64 a] 23)).heap.size = w.heap.size + 1 by simp] at F
  have l1 : w.heap.size + 1 < ((w.alloc (.cells #[.int .i64 z, .int .i64 D, .int .i64 s, .int .i64 l, .int .i64 a] 23)).alloc (.cells #[.int .i64 x.gen, .int .i64 x.ep, .int .i64 x.pos, .int .i64 x.seq, .int .i64 x.last, .string x.lab, .slice x.HA x.hs.length x.hc] 31)).heap.size := by simp
  have HX := Lib.hid hx
  have HB := Lib.hid cB
  have HLEN := Lib.hid hlen
  clear hx cB hlen
  go_enter Tryd.func32, Tryd.ntmps32
  go_upto_region 1 with fail
  generalize (w.alloc (.cells #[.int .i64 z, .int .i64 D, .int .i64 s, .int .i64 l, .int .i64 a] 23)).alloc (.cells #[.int .i64 x.gen, .int .i64 x.ep, .int .i64 x.pos, .int .i64 x.seq, .int .i64 x.last, .string x.lab, .slice x.HA x.hs.length x.hc] 31) = w0 at *
  obtain ⟨c0, c1, c2, c3, c4, c5, c6⟩ := id F
  obtain ⟨g0, g1, g2, g3, g4⟩ := id GG
  go_upto_region 4 with (go_at_call 48; (with_reducible refine (cC _ hb0).mono ?_); rintro e w1 ⟨rfl, hb1⟩)
  replace F := F.keep hb1 l1
  replace GG := GG.keep hb1 (by omega)
  replace l1 := Nat.lt_of_lt_of_le l1 hb1.size
  replace hb0 := bt hb0 hb1
  clear c0 c1 c2 c3 c4 c5 c6 g0 g1 g2 g3 g4 hb1 cC w0
  go_cut [7, 8] from 20 to 35 (fun v u wx => u = .int .i64 0 ∧ ∃ (X : Option Addr) (c : Nat), v = .slice X 17 c ∧ Own wx w1.heap.size 5 (.slice X 17 c) (encN x.d) ∧ Below w1.heap.size w1 wx)
  case first =>
    obtain ⟨c0, c1, c2, c3, c4, c5, c6⟩ := id F
    clear c5 c6 HB HX b8 cS GG F HLEN
    have HF := Lib.hid (show ∀ W, Below w1.heap.size w1 W → W.cell? ⟨w.heap.size + 1, 0, none⟩ = some (.int .i64 x.gen) ∧ W.cell? ⟨w.heap.size + 1, 1, none⟩ = some (.int .i64 x.ep) ∧ W.cell? ⟨w.heap.size + 1, 2, none⟩ = some (.int .i64 x.pos) ∧ W.cell? ⟨w.heap.size + 1, 3, none⟩ = some (.int .i64 x.seq) ∧ W.cell? ⟨w.heap.size + 1, 4, none⟩ = some (.int .i64 x.last) ∧ Below w1.heap.size w1 W from fun W h => ⟨ks h l1 c0, ks h l1 c1, ks h l1 c2, ks h l1 c3, ks h l1 c4, h⟩)
    have HBB := Lib.hid (show ∀ W : World, SlV (W.alloc (.cells #[.int .i64 x.gen, .int .i64 x.ep, .int .i64 x.seq, .int .i64 x.last, .int .i64 x.pos] 3)) (W.alloc (.cells #[.int .i64 x.gen, .int .i64 x.ep, .int .i64 x.seq, .int .i64 x.last, .int .i64 x.pos] 3)).heap.size (some ⟨W.heap.size, 0, none⟩) (ints [x.d.gen, x.d.ep, x.d.seq, x.d.last, x.d.pos]) from fun W => SlV.of_block (heap_alloc_new W _) rfl (by simp))
    have HBA := Lib.hid (show SlV (w1.alloc (.cells #[.int .i64 x.gen, .int .i64 x.ep, .int .i64 x.seq, .int .i64 x.last, .int .i64 x.pos] 3)).drew (w1.alloc (.cells #[.int .i64 x.gen, .int .i64 x.ep, .int .i64 x.seq, .int .i64 x.last, .int .i64 x.pos] 3)).drew.heap.size (some ⟨w1.heap.size, 0, none⟩) (ints [x.d.gen, x.d.ep, x.d.seq, x.d.last, x.d.pos]) from HBB.out w1)
    go_region_held3 (fun W => W.cell? ⟨w.heap.size + 1, 0, none⟩ = some (.int .i64 x.gen) ∧ W.cell? ⟨w.heap.size + 1, 1, none⟩ = some (.int .i64 x.ep) ∧ W.cell? ⟨w.heap.size + 1, 2, none⟩ = some (.int .i64 x.pos) ∧ W.cell? ⟨w.heap.size + 1, 3, none⟩ = some (.int .i64 x.seq) ∧ W.cell? ⟨w.heap.size + 1, 4, none⟩ = some (.int .i64 x.last) ∧ Below w1.heap.size w1 W)
      ((first
        | exact HF.out _ (below_dr (Below.refl _ _))
        | exact HF.out _ (below_dr (bl w1 _))
        | exact HF.out _ hbR
        | exact HF.out _ hbS
        | exact HF.out _ (kal hbS _)
        | fail))
      (first
        | (go_at_call 52; (with_reducible refine (sizes_at _).mono ?_); rintro e w2 ⟨⟨A2, y2, rfl, -, p2⟩, hb2⟩; have hbS : Below w1.heap.size w1 w2 := (by first | exact bt (below_dr (Below.refl w1.heap.size w1)) hb2 | exact bt (below_dr (bl w1 _)) hb2))
        | (go_at_call 51; (with_reducible refine (HR.out _ _ _ _ _ ?_ ?_).mono ?_); (focus (first | exact HBA.out.next hb2 | exact HBB.out _ | fail)); (focus (first | exact slv_own p2 | exact slv_own (p2.alloc _) | fail)); rintro e w3 ⟨⟨X3, y3, rfl, -, p3⟩, hb3⟩; have hbR : Below w1.heap.size w1 w3 := (by first | exact bt hbS hb3 | exact bt (kal hbS _) hb3))
        | fail)
    all_goals (go_wp2_with fail; go_meet)
    all_goals exact ⟨rfl, _, _, rfl, p3.less (by first | exact hbS.size | exact (kal hbS _).size), hbR⟩
  case rest =>
    obtain ⟨w3, rfl⟩ : ∃ x, x = wc := ⟨wc, rfl⟩
    obtain ⟨rfl, X3, y3, rfl, p3, hb3⟩ := hcut
    have l3 := hb3.size
    obtain ⟨c0, c1, c2, c3, c4, c5, c6⟩ := id (F.keep hb3 l1)
    have src : ∀ (W : World) (b q c : Nat) (X : Option Addr) (l : List UInt8), l.length = q → Own W b 5 (.slice X q c) l → Src Tryd.prog 1 26 (.slice X q c) l.length (cells8 l) W := fun W b q c X l hq h => by
      obtain ⟨A', c', hv, -, -, hs, -⟩ := h.form
      simp only [Value.slice.injEq] at hv
      obtain ⟨rfl, -, rfl⟩ := hv
      have := hs.src (P := Tryd.prog) Tryd.underlying26 c
      rwa [hq] at this ⊢
    have HS := Lib.hid src
    clear HR src
    have HEN := Lib.hid (encN_len x.d)
    have HEL := Lib.hid (show (encL x.lab.data.toList).length = 1 + x.lab.size by rw [encL_len, size_list])
    have HQ := Lib.hid (show (encN x.d ++ encL x.lab.data.toList).length = 18 + x.lab.size by rw [List.length_append, HEN.out, HEL.out]; omega)
    have HC6 := Lib.hid (show ∀ W, Below w1.heap.size w1 W → W.cell? ⟨w.heap.size + 1, 6, none⟩ = some (.slice x.HA x.hs.length x.hc) from fun W h => ks h l1 F.c6)
    clear c6
    go_wp2_with (first
      | (go_at_call 53; (with_reducible refine (HB.out _ (hb0.trans (hb3.mono (by omega)))).mono ?_); rintro e w4 ⟨⟨v4, rfl, p4⟩, hb4⟩; obtain ⟨X4, y4, rfl, -, -, -, -⟩ := id p4.form)
      | (at_builtin
         refine wpList_app8 _ rfl (.tmp 48) (.tmp 49) _ _ rfl w1.heap.size 5 t8 _ (encN x.d) rfl (p3.below hb4) _ (encL x.lab.data.toList) rfl (HS.out _ _ _ _ _ _ rfl p4) ?_ ?_ ?_
         · rw [HEN.out, HEL.out]; omega
         · have := hb4.size; omega
         intro v5 w5 p5 hg5 hat5
         have hb5 : Below w1.heap.size w1 w5 := (hb3.trans (hb4.mono l3)).grown hg5 (by have := hb4.size; omega) (fun q hq => (World.ownsRow.lt p3 q hq).1)
         have c6 := HC6.out _ hb5
         obtain ⟨X5, y5, rfl, p5'⟩ := own_q p5 HQ.out))
    clear c0 c1 c2 c3 c4 c5 c6 hb3 l3 hg5 hat5 hb4 p4 p3 p5 HB HEL HEN
    have hz4 : x.hs.length ≤ 4 := by have := HLEN.out; omega
    go_loopw [7, 54] (fun v i w' => ∃ (k q : Nat) (X : Option Addr) (c : Nat), k ≤ x.hs.length ∧ i = .int .i64 k ∧ v = .slice X q c ∧ Hid ((encN x.d ++ (encL x.lab.data.toList ++ ((hds x.hs).take k).flatMap encH)).length = q) ∧ q ≤ 42 + k * 10 ∧ Own w' w1.heap.size 5 (.slice X q c) (encN x.d ++ (encL x.lab.data.toList ++ ((hds x.hs).take k).flatMap encH)) ∧ Below w1.heap.size w1 w') (fun _ i _ => x.hs.length - (RowKit.intOf i).toNat)
    case atStart => exact ⟨0, _, X5, y5, by omega, rfl, rfl, Lib.hid (by have := HQ.out; simpa using this), by omega, (by simpa using p5'), hb5⟩
    case round =>
      clear p5' hb5
      obtain ⟨w6, rfl⟩ : ∃ x, x = wr := ⟨wr, rfl⟩
      obtain ⟨k, q, X6, y6, hk, rfl, rfl, HL6, hq6, p6, hb6⟩ := hrel
      have l6 := hb6.size
      by_cases hlt : k < x.hs.length
      · have i1 : (k : Int) < (x.hs.length : Int) := by omega
        have hX := HX.out.next (hb0.trans (hb6.mono (by omega)))
        obtain ⟨b1, off, u, e3, hbb, r0, r1, r2, m1, hu, -, e1⟩ := home_at hX.hh hX.hi hlt
        have hub : HomB D u.d := b8 u.d (List.mem_of_getElem? e1)
        have HT := Lib.hid (show encN x.d ++ (encL x.lab.data.toList ++ ((hds x.hs).take k).flatMap encH) ++ encH u.d = encN x.d ++ (encL x.lab.data.toList ++ ((hds x.hs).take (k + 1)).flatMap encH) by rw [take_next e1, List.flatMap_append]; simp [List.append_assoc])
        have HE := Lib.hid (encH_length hub.1)
        have HP := Lib.hid (show u.ps.length = D + 1 from hub.1)
        have HRR := Lib.hid (show ∀ (A A' : Option Addr) (c c' : Nat) (W : World), SlV W W.heap.size A (ints (u.ps ++ [u.nx, u.rt])) → SlV W W.heap.size A' (ints (List.replicate (D + 2) 1 ++ [4])) → Calls Tryd.prog 51 #[.slice A (D + 3) c, .slice A' (D + 3) c'] W fun e w' => PutQ W.heap.size (D + 6) (encH u.d) e w' ∧ Below W.heap.size W w' from
          fun A A' c c' W h h' => row_q (u.ps ++ [u.nx, u.rt]) (List.replicate (D + 2) 1 ++ [4]) (D + 3) (D + 6) A A' c c' _ W (by rw [List.length_append, HP.out]; rfl) (by simp) (by omega) (home_fit hub) (home_bytes hub) HE.out h h')
        rw [e3]
        clear hX hu e1 e3 hub
        go_upto_region 14 with fail
        have hbh := bl w6 (.cells #[.slice u.A u.ps.length u.c, .int .i64 u.nx, .int .i64 u.rt] 62)
        have n0 : (w6.alloc (.cells #[.slice u.A u.ps.length u.c, .int .i64 u.nx, .int .i64 u.rt] 62)).cell? ⟨w6.heap.size, 0, none⟩ = some (.slice u.A u.ps.length u.c) := by rw [cell_of_row _ _ _ _ _ _ (heap_alloc_new w6 _)]; rfl
        have n1 : (w6.alloc (.cells #[.slice u.A u.ps.length u.c, .int .i64 u.nx, .int .i64 u.rt] 62)).cell? ⟨w6.heap.size, 1, none⟩ = some (.int .i64 u.nx) := by rw [cell_of_row _ _ _ _ _ _ (heap_alloc_new w6 _)]; rfl
        have n2 : (w6.alloc (.cells #[.slice u.A u.ps.length u.c, .int .i64 u.nx, .int .i64 u.rt] 62)).cell? ⟨w6.heap.size, 2, none⟩ = some (.int .i64 u.rt) := by rw [cell_of_row _ _ _ _ _ _ (heap_alloc_new w6 _)]; rfl
        have lh : w6.heap.size < (w6.alloc (.cells #[.slice u.A u.ps.length u.c, .int .i64 u.nx, .int .i64 u.rt] 62)).heap.size := by simp
        have hb7 : Below w1.heap.size w1 (w6.alloc (.cells #[.slice u.A u.ps.length u.c, .int .i64 u.nx, .int .i64 u.rt] 62)) := hb6.trans (hbh.mono l6)
        have p7 := p6.below hbh
        have M7 := Lib.hid (m1.next hbh)
        clear r0 r1 r2 hbb m1 hbh
        generalize w6.alloc (.cells #[.slice u.A u.ps.length u.c, .int .i64 u.nx, .int .i64 u.rt] 62) = w7 at *
        have G7 := GG.keep hb7 (by omega)
        have l7 := hb7.size
        have HS2 := Lib.hid HS.out
        go_cut [12, 13] from 58 to 72 (fun v t wx => t = .int .i64 0 ∧ ∃ (X : Option Addr) (c : Nat), v = .slice X (D + 6) c ∧ Own wx w7.heap.size 5 (.slice X (D + 6) c) (encH u.d) ∧ Below w7.heap.size w7 wx)
        case first =>
          clear p7 p6 hb6 HL6 HS HS2 b8 HX F GG HT HE HLEN HC6
          obtain ⟨g0, g1, g2, g3, g4⟩ := id G7
          have lg : w.heap.size < w7.heap.size := by omega
          have HF := Lib.hid (show ∀ W, Below w7.heap.size w7 W → W.cell? ⟨w6.heap.size, 0, none⟩ = some (.slice u.A u.ps.length u.c) ∧ W.cell? ⟨w6.heap.size, 1, none⟩ = some (.int .i64 u.nx) ∧ W.cell? ⟨w6.heap.size, 2, none⟩ = some (.int .i64 u.rt) ∧ W.cell? ⟨w.heap.size, 0, none⟩ = some (.int .i64 z) ∧ W.cell? ⟨w.heap.size, 1, none⟩ = some (.int .i64 D) ∧ W.cell? ⟨w.heap.size, 2, none⟩ = some (.int .i64 s) ∧ W.cell? ⟨w.heap.size, 3, none⟩ = some (.int .i64 l) ∧ W.cell? ⟨w.heap.size, 4, none⟩ = some (.int .i64 a) ∧ Below w7.heap.size w7 W from fun W h => ⟨ks h lh n0, ks h lh n1, ks h lh n2, ks h lg g0, ks h lg g1, ks h lg g2, ks h lg g3, ks h lg g4, h⟩)
          have HCl := Lib.hid (show ∀ W, Below w7.heap.size w7 W → Calls Tryd.prog 54 #[.slice u.A u.ps.length u.c] W fun e w' => OneI W.heap.size u.ps.length u.ps e w' ∧ Below W.heap.size W w' from fun W h => cloneI_any u.A u.c W.heap.size u.ps.length u.ps W rfl (M7.out.next h).1 (Nat.le_refl _) (by have := HP.out; omega))
          have HBB := Lib.hid (show ∀ W : World, SlV (W.alloc (.cells #[.int .i64 u.nx, .int .i64 u.rt] 3)) (W.alloc (.cells #[.int .i64 u.nx, .int .i64 u.rt] 3)).heap.size (some ⟨W.heap.size, 0, none⟩) (ints [u.nx, u.rt]) from fun W => SlV.of_block (heap_alloc_new W _) rfl (by simp))
          have HBA := Lib.hid (show SlV (w7.alloc (.cells #[.int .i64 u.nx, .int .i64 u.rt] 3)).drew (w7.alloc (.cells #[.int .i64 u.nx, .int .i64 u.rt] 3)).drew.heap.size (some ⟨w7.heap.size, 0, none⟩) (ints [u.nx, u.rt]) from HBB.out w7)
          have HSI := Lib.hid (show ∀ (W : World) (A : Option Addr), SlV W W.heap.size A (ints [u.nx, u.rt]) → Src Tryd.prog 1 51 (.slice A 2 2) (ints [u.nx, u.rt]).length (ints [u.nx, u.rt]) W from fun W A h => h.src (ints_one _) Tryd.underlying51 2)
          have HU3 := Lib.hid (show (u.ps ++ [u.nx, u.rt]).length = D + 3 by rw [List.length_append, HP.out]; rfl)
          have HU1 := Lib.hid (show (ints u.ps).length + (ints [u.nx, u.rt]).length ≤ maxLen by rw [ints_length, ints_length, HP.out]; unfold maxLen; simp; omega)
          have HU2 := Lib.hid (show ((ints u.ps).length + (ints [u.nx, u.rt]).length) * 8 ≤ 140737488355328 by rw [ints_length, ints_length, HP.out]; simp; omega)
          clear n0 n1 n2 g0 g1 g2 g3 g4 G7 M7
          have hnx : (0 : Int) ≤ 2 := by omega
          go_region_held3 (fun W => W.cell? ⟨w6.heap.size, 0, none⟩ = some (.slice u.A u.ps.length u.c) ∧ W.cell? ⟨w6.heap.size, 1, none⟩ = some (.int .i64 u.nx) ∧ W.cell? ⟨w6.heap.size, 2, none⟩ = some (.int .i64 u.rt) ∧ W.cell? ⟨w.heap.size, 0, none⟩ = some (.int .i64 z) ∧ W.cell? ⟨w.heap.size, 1, none⟩ = some (.int .i64 D) ∧ W.cell? ⟨w.heap.size, 2, none⟩ = some (.int .i64 s) ∧ W.cell? ⟨w.heap.size, 3, none⟩ = some (.int .i64 l) ∧ W.cell? ⟨w.heap.size, 4, none⟩ = some (.int .i64 a) ∧ Below w7.heap.size w7 W)
            ((first
              | exact HF.out _ (below_dr (Below.refl _ _))
              | exact HF.out _ (below_dr (bl w7 _))
              | exact HF.out _ hb
              | exact HF.out _ (kal hb _)
              | fail))
            (first
              | (go_at_call 54; have o3k := o3; (with_reducible refine (HCl.out _ ?_).mono ?_); (focus (first | exact below_dr (Below.refl _ _) | exact below_dr (bl w7 _) | exact hb | exact kal hb _ | fail)); rintro e w2 ⟨⟨A2, y2, rfl, -, o2⟩, hb2⟩; have hap := (by first | exact apart_lt o3k o2 (Nat.le_refl _) | exact apart_lt (o3k.alloc _) o2 (Nat.le_refl _)); have o3n : OwnV w2 _ 3 (.slice A3 (D + 3) y3) (ints (List.replicate (D + 2) 1 ++ [4])) := (by first | exact o3k.below hb2 | exact (o3k.alloc _).below hb2); clear o3 o3k; have o3 := o3n; clear o3n; have o2n := o2.less (base' := w7.heap.size) (by first | exact Nat.le_refl _ | exact (bl w7 _).size | exact hb.size | exact (kal hb _).size); clear o2; have o2 := o2n; clear o2n; have hbq : Below w7.heap.size w7 w2 := (by first | exact bt (below_dr (Below.refl w7.heap.size w7)) hb2 | exact bt (below_dr (bl w7 _)) hb2 | exact bt hb hb2 | exact bt (kal hb _) hb2); clear hb; have hb := hbq; clear hbq)
              | (go_at_call 54; (with_reducible refine (HCl.out _ ?_).mono ?_); (focus (first | exact below_dr (Below.refl _ _) | exact below_dr (bl w7 _) | exact hb | exact kal hb _ | fail)); rintro e w2 ⟨⟨A2, y2, rfl, -, o2⟩, hb2⟩; have o2n := o2.less (base' := w7.heap.size) (by first | exact Nat.le_refl _ | exact (bl w7 _).size); clear o2; have o2 := o2n; clear o2n; have hb : Below w7.heap.size w7 w2 := (by first | exact bt (below_dr (Below.refl w7.heap.size w7)) hb2 | exact bt (below_dr (bl w7 _)) hb2))
              | (go_at_call 55; have o4k := o4; (with_reducible refine (cS _).mono ?_); rintro e w3 ⟨⟨A3, y3, rfl, -, o3⟩, hb3⟩; have o4n := o4k.below hb3; clear o4 o4k; have o4 := o4n; clear o4n; have hbq : Below w7.heap.size w7 w3 := (by first | exact bt (below_dr (Below.refl w7.heap.size w7)) hb3 | exact bt (below_dr (bl w7 _)) hb3 | exact bt hb hb3 | exact bt (kal hb _) hb3); clear hb; have hb := hbq; clear hbq)
              | (go_at_call 55; have o2k := o2; (with_reducible refine (cS _).mono ?_); rintro e w3 ⟨⟨A3, y3, rfl, -, o3⟩, hb3⟩; have hap := (by first | exact apart_gt o2k o3 (Nat.le_refl _) | exact apart_gt (o2k.alloc _) o3 (Nat.le_refl _)); have o2n : OwnV w3 _ 3 (.slice A2 u.ps.length y2) (ints u.ps) := (by first | exact o2k.below hb3 | exact (o2k.alloc _).below hb3); clear o2 o2k; have o2 := o2n; clear o2n; have hbq : Below w7.heap.size w7 w3 := (by first | exact bt (below_dr (Below.refl w7.heap.size w7)) hb3 | exact bt (below_dr (bl w7 _)) hb3 | exact bt hb hb3 | exact bt (kal hb _) hb3); clear hb; have hb := hbq; clear hbq)
              | (go_at_call 55; (with_reducible refine (cS _).mono ?_); rintro e w3 ⟨⟨A3, y3, rfl, -, o3⟩, hb3⟩; have hb : Below w7.heap.size w7 w3 := (by first | exact bt (below_dr (Below.refl w7.heap.size w7)) hb3 | exact bt (below_dr (bl w7 _)) hb3))
              | (have o3k := o3; refine step_appV _ rfl (.tmp 61) (.tmp 66) _ _ rfl w7.heap.size 3 tvI _ (ints u.ps) rfl ?_ _ (ints [u.nx, u.rt]) rfl ?_ ?_ ?_ ?_ ?_; (focus (first | exact o2 | exact o2.alloc _ | fail)); (focus (first | exact HSI.out _ _ (HBB.out _) | exact HSI.out _ _ (HBA.out.next hb2) | exact HSI.out _ _ ((HBA.out.next hb2).next hb3) | exact HSI.out _ _ ((HBA.out.next hb3).next hb2) | exact HSI.out _ _ ((HBB.out _).next hb2) | exact HSI.out _ _ ((HBB.out _).next hb3) | fail)); (focus exact HU1.out); (focus exact HU2.out); (focus (first | exact hb.size | exact (kal hb _).size | fail)); intro v4 w4 o4 hg4 hat4; obtain ⟨A4, y4, rfl, o4'⟩ := ownI_q (by rw [ints_append]; exact o4) HU3.out; clear o4; have o4 := o4'; clear o4'; (have hbq : Below w7.heap.size w7 w4 := (by first | exact hb.grown hg4 hb.size (fun q hq => (World.ownsRow.lt o2 q hq).1) | exact (kal hb _).grown hg4 (kal hb _).size (fun q hq => (World.ownsRow.lt o2 q hq).1))); clear hb; have hb := hbq; clear hbq; have o3n : OwnV w4 _ 3 (.slice A3 (D + 3) y3) (ints (List.replicate (D + 2) 1 ++ [4])) := (by first | exact o3k.kept hg4 hap | exact (o3k.alloc _).kept hg4 hap); clear o3 o3k; have o3 := o3n; clear o3n)
              | (refine step_appV _ rfl (.tmp 61) (.tmp 66) _ _ rfl w7.heap.size 3 tvI _ (ints u.ps) rfl ?_ _ (ints [u.nx, u.rt]) rfl ?_ ?_ ?_ ?_ ?_; (focus (first | exact o2 | exact o2.alloc _ | fail)); (focus (first | exact HSI.out _ _ (HBB.out _) | exact HSI.out _ _ (HBA.out.next hb2) | exact HSI.out _ _ ((HBA.out.next hb2).next hb3) | exact HSI.out _ _ ((HBA.out.next hb3).next hb2) | exact HSI.out _ _ ((HBB.out _).next hb2) | exact HSI.out _ _ ((HBB.out _).next hb3) | fail)); (focus exact HU1.out); (focus exact HU2.out); (focus (first | exact hb.size | exact (kal hb _).size | fail)); intro v4 w4 o4 hg4 hat4; obtain ⟨A4, y4, rfl, o4'⟩ := ownI_q (by rw [ints_append]; exact o4) HU3.out; clear o4; have o4 := o4'; clear o4'; (have hbq : Below w7.heap.size w7 w4 := (by first | exact hb.grown hg4 hb.size (fun q hq => (World.ownsRow.lt o2 q hq).1) | exact (kal hb _).grown hg4 (kal hb _).size (fun q hq => (World.ownsRow.lt o2 q hq).1))); clear hb; have hb := hbq; clear hbq)
              | (go_at_call 51; (with_reducible refine (HRR.out _ _ _ _ _ ?_ ?_).mono ?_); (focus exact slv_own o4); (focus exact slv_own o3); rintro e w5 ⟨⟨X8, y8, rfl, -, p8⟩, hb5⟩; have hbR := hb; have hbq : Below w7.heap.size w7 w5 := (by first | exact bt (below_dr (Below.refl w7.heap.size w7)) hb5 | exact bt (below_dr (bl w7 _)) hb5 | exact bt hb hb5 | exact bt (kal hb _) hb5); clear hb; have hb := hbq; clear hbq)
              | fail)
          all_goals (go_wp2_with fail; go_meet)
          all_goals exact ⟨rfl, _, _, rfl, p8.less hbR.size, hb⟩
        case rest =>
          obtain ⟨w8, rfl⟩ : ∃ x, x = wc := ⟨wc, rfl⟩
          obtain ⟨rfl, X8, y8, rfl, p8, hb8⟩ := hcut
          have p7' := p7.below hb8
          have l8 := hb8.size
          have hbb := hb7.trans (hb8.mono l7)
          have HQ2 := Lib.hid (show (encN x.d ++ (encL x.lab.data.toList ++ ((hds x.hs).take (k + 1)).flatMap encH)).length = q + (D + 6) by rw [← HT.out, List.length_append, HL6.out, HE.out])
          clear p7 HRR n0 n1 n2 G7 M7
          go_wp2_with (first
            | (at_builtin
               refine wpList_app8 _ rfl (.tmp 76) (.tmp 77) _ _ rfl w1.heap.size 5 t8 _ (encN x.d ++ (encL x.lab.data.toList ++ ((hds x.hs).take k).flatMap encH)) rfl p7' _ (encH u.d) rfl (HS2.out _ _ _ _ _ _ HE.out p8) ?_ ?_ ?_
               · rw [HL6.out, HE.out]; omega
               · omega
               intro v9 w9 p9 hg9 hat9
               rw [HT.out] at p9
               have hb9 : Below w1.heap.size w1 w9 := hbb.grown hg9 (by omega) (fun q hq => (World.ownsRow.lt p7' q hq).1)
               obtain ⟨X9, y9, rfl, p9'⟩ := own_q p9 HQ2.out))
          go_roundw
          case rel => exact ⟨k + 1, q + (D + 6), X9, y9, by omega, by go_num, rfl, HQ2, by omega, p9', hb9⟩
          case measure => simp [RowKit.intOf]; omega
      · have i1 : ¬ (k : Int) < (x.hs.length : Int) := by omega
        have HT := Lib.hid (show encN x.d ++ (encL x.lab.data.toList ++ ((hds x.hs).take k).flatMap encH) = encA x.d by rw [List.take_of_length_le (by rw [hds_length]; omega)]; rfl)
        have hlq := HL6.out
        rw [HT.out] at hlq p6
        have HQ2 := Lib.hid hlq
        have p6' := p6.less (base' := w.heap.size) (by omega)
        have hbf := hb0.trans (hb6.mono (by omega))
        have HO := Lib.hid (show PutQ w.heap.size (encA x.d).length (encA x.d) (.returned (.tuple #[.slice X6 q y6, .int .i64 0])) w6 from ⟨X6, y6, by rw [HQ2.out], rfl, by rw [HQ2.out]; exact p6'⟩)
        clear hlq p6 p6' HL6 HX b8
        go_wp2_with fail
        go_ret2
        exact ⟨HO.out, hbf⟩
end Go.Proofs.YtdjleimndolonaaDoor.anc

namespace Go.Proofs.YtdjleimndolonaaDoor.anc
open Go.RowKit Go.Lib
open Go.Proofs.YtdjleimndolonaaDoor.pck (le le_length num unrow behind behind_nil behind_next)
open Go.Proofs.YtdjleimndolonaaDoor.lbl (encL readL labE lab_len ValidOk Tabs read_empty read_short read_any)

theorem behind_ok (l t : List Int) (r : List UInt8) : behind l (.ok (t, r)) = .ok (l ++ t, r) := rfl
theorem behind_err (l : List Int) (x : Int) : behind l (.error x) = .error x := rfl
theorem behind_two (a b : List Int) (r : Except Int (List Int × List UInt8)) : behind a (behind b r) = behind (a ++ b) r := by
  cases r with
  | ok p => simp [behind]
  | error x => rfl
theorem unrow_step (k : Nat) (s : Int) (ss : List Int) (b : List UInt8) (hs : s = 1 ∨ s = 2 ∨ s = 4) (hk : s = k) :
    unrow (s :: ss) b = if b.length < k then .error 4 else behind [(num (b.take k) : Int)] (unrow ss (b.drop k)) := by
  subst hk
  by_cases h : b.length < k
  · rw [unrow, if_pos hs, if_pos (by rw [Int.toNat_natCast]; exact h), if_pos h]
  · rw [if_neg h]
    have := behind_next (l := []) (ss := ss) (b := b) hs (by rw [Int.toNat_natCast]; exact h)
    rw [behind_nil, Int.toNat_natCast] at this
    exact this
theorem num_one_byte (x : UInt8) (b : List UInt8) : num ((x :: b).take 1) = x.toNat := by simp [num]
theorem unrow_ones (ss : List Int) : ∀ (k : Nat) (b : List UInt8), unrow (List.replicate k 1 ++ ss) b = if b.length < k then .error 4 else behind ((b.take k).map fun x => (x.toNat : Int)) (unrow ss (b.drop k))
  | 0, b => by
    rw [if_neg (by omega)]
    simp [behind_nil]
  | k + 1, [] => by
    rw [List.replicate_succ, List.cons_append, unrow_step 1 1 _ _ (.inl rfl) rfl]
    rfl
  | k + 1, x :: b => by
    rw [List.replicate_succ, List.cons_append, unrow_step 1 1 _ _ (.inl rfl) rfl, if_neg (by rw [List.length_cons]; omega), num_one_byte]
    rw [show (x :: b).drop 1 = b from rfl, unrow_ones ss k b]
    by_cases h : b.length < k
    · rw [if_pos h, if_pos (by rw [List.length_cons]; omega)]
      rfl
    · rw [if_neg h, if_neg (by rw [List.length_cons]; omega), behind_two]
      rfl
/-- A home's numbers. -/
def homeNs (h : Hom) : List Int := h.ps ++ [h.nx, h.rt]
theorem unrow_home (D : Nat) (b : List UInt8) : unrow (List.replicate (D + 2) 1 ++ [4]) b = if b.length < D + 6 then .error 4 else .ok (homeNs (homeN D b), b.drop (D + 6)) := by
  rw [unrow_ones]
  by_cases h : b.length < D + 2
  · rw [if_pos h, if_pos (by omega)]
  · rw [if_neg h, unrow_step 4 4 [] _ (.inr (.inr rfl)) rfl]
    by_cases h2 : b.length < D + 6
    · rw [if_pos (by rw [List.length_drop]; omega), if_pos h2]
      rfl
    · rw [if_neg (by rw [List.length_drop]; omega), if_neg h2]
      rw [show unrow [] ((b.drop (D + 2)).drop 4) = .ok ([], (b.drop (D + 2)).drop 4) from rfl, behind_ok, behind_ok, List.drop_drop]
      have e : (b.take (D + 2)).map (fun x => (x.toNat : Int)) = (b.take (D + 1)).map (fun x => (x.toNat : Int)) ++ [(num ((b.drop (D + 1)).take 1) : Int)] := by
        have hk : D + 1 < b.length := by omega
        rw [show D + 2 = D + 1 + 1 from rfl, List.take_succ_eq_append_getElem hk, List.map_append, List.drop_eq_getElem_cons hk, num_one_byte]
        rfl
      rw [e, List.append_assoc]
      rfl
theorem unrow_head (b : List UInt8) : unrow [4, 4, 4, 4, 1] b = if b.length < 17 then .error 4 else .ok ([(num (b.take 4) : Int), (num ((b.drop 4).take 4) : Int), (num ((b.drop 8).take 4) : Int), (num ((b.drop 12).take 4) : Int), (num ((b.drop 16).take 1) : Int)], b.drop 17) := by
  have h4 : (4 : Int) = 1 ∨ (4 : Int) = 2 ∨ (4 : Int) = 4 := .inr (.inr rfl)
  rw [unrow_step 4 4 _ _ h4 rfl, unrow_step 4 4 _ _ h4 rfl, unrow_step 4 4 _ _ h4 rfl, unrow_step 4 4 _ _ h4 rfl, unrow_step 1 1 _ _ (.inl rfl) rfl]
  simp only [List.drop_drop, List.length_drop, Nat.reduceAdd]
  by_cases h : b.length < 17
  · rw [if_pos h]
    by_cases g1 : b.length < 4
    · rw [if_pos g1]
    · rw [if_neg g1]
      by_cases g2 : b.length - 4 < 4
      · rw [if_pos g2]; rfl
      · rw [if_neg g2]
        by_cases g3 : b.length - 8 < 4
        · rw [if_pos g3]; rfl
        · rw [if_neg g3]
          by_cases g4 : b.length - 12 < 4
          · rw [if_pos g4]; rfl
          · rw [if_neg g4, if_pos (by omega)]; rfl
  · rw [if_neg h, if_neg (by omega), if_neg (by omega), if_neg (by omega), if_neg (by omega), if_neg (by omega)]
    rfl

/-- What label.Read answers of any bytes. -/
def LabR (l : List UInt8) (w : World) (e : Ending) (w' : World) : Prop :=
  (e = .returned (match readL l with | none => .tuple #[.string ⟨#[]⟩, .int .i64 0, .int .i64 4] | some t => .tuple #[.string ⟨t.toArray⟩, .int .i64 (1 + (t.length : Int)), .int .i64 0])) ∧ Below w.heap.size w w'
theorem labRead_any (hV : ValidOk) (l : List UInt8) (n : Nat) (A : Option Addr) (c B : Nat) (W : World) (hn : l.length = n) (hT : Tabs W) (hA : Sl W B A l) (hc : n ≤ c) (hm : c ≤ maxLen) :
    Calls Tryd.prog 72 #[.slice A n c] W (LabR l W) := by
  subst hn
  cases l with
  | nil => exact read_empty A c W
  | cons n r =>
    by_cases hn : r.length < n.toNat
    · refine (read_short A c B n r W hA hn).mono fun e w' h => ⟨?_, h.2⟩
      rw [show readL (n :: r) = none by unfold readL; simp only [if_pos hn]]
      exact h.1
    · have hl : (r.take n.toNat).length = n.toNat := by rw [List.length_take]; omega
      refine (read_any hV A c B n r W hT hA (by simpa using hc) hm (by omega)).mono ?_
      rintro e w' ⟨X, hX, hx, hb⟩
      have uq : X = ⟨(r.take n.toNat).toArray⟩ := by
        apply ByteArray.ext
        apply Array.ext'
        rw [hX]
      refine ⟨?_, hb⟩
      by_cases hE : labE (r.take n.toNat) = 0
      · rw [if_pos hE, uq] at hx
        rw [show readL (n :: r) = some (r.take n.toNat) by unfold readL; simp only [if_neg hn, if_pos hE]]
        simp only
        rw [hl]
        exact hx
      · rw [if_neg hE] at hx
        rw [show readL (n :: r) = none by unfold readL; simp only [if_neg hn, if_neg hE]]
        exact hx

/-- As Sl, and behind block lo. -/
def SlH (w : World) (lo : Nat) (A : Option Addr) (l : List UInt8) : Prop :=
  0 < l.length → ∃ b off, A = some ⟨b, off, none⟩ ∧ lo ≤ b ∧ b < w.heap.size ∧ ∀ j (h : j < l.length), w.cell? ⟨b, off + j, none⟩ = some (by8 l[j])
section
variable {w w' : World} {lo : Nat} {A : Option Addr} {l : List UInt8}
theorem SlH.sl (h : SlH w lo A l) : Sl w w.heap.size A l := fun hl => by
  obtain ⟨b, off, ha, -, hb, hc⟩ := h hl
  exact ⟨b, off, ha, hb, hc⟩
theorem SlH.below (h : SlH w lo A l) (hb : Below w.heap.size w w') : SlH w' lo A l := fun hl => by
  obtain ⟨b, off, ha, h1, h2, hc⟩ := h hl
  exact ⟨b, off, ha, h1, Nat.lt_of_lt_of_le h2 hb.size, fun j hj => (hb.cell (p := ⟨b, off + j, none⟩) h2).trans (hc j hj)⟩
theorem SlH.set (h : SlH w lo A l) {g o : Nat} (hg : g < lo) (v : Value) : SlH (w.setCell ⟨g, o, none⟩ v) lo A l := fun hl => by
  obtain ⟨b, off, ha, h1, h2, hc⟩ := h hl
  refine ⟨b, off, ha, h1, by simpa using h2, fun j hj => ?_⟩
  rw [World.cell?_setCell_other _ _ _ _ (fun e => by have := congrArg Addr.block e; simp at this; omega)]
  exact hc j hj
theorem SlH.drop {b off : Nat} (h : SlH w lo (some ⟨b, off, none⟩) l) (k : Nat) : SlH w lo (some ⟨b, off + k, none⟩) (l.drop k) := fun hl => by
  rw [List.length_drop] at hl
  obtain ⟨b', off', ha, h1, h2, hc⟩ := h (by omega)
  simp only [Option.some.injEq, Addr.mk.injEq, and_true] at ha
  obtain ⟨rfl, rfl⟩ := ha
  refine ⟨b, off + k, rfl, h1, h2, fun j hj => ?_⟩
  rw [List.length_drop] at hj
  rw [Nat.add_assoc, hc (k + j) (by omega), List.getElem_drop]
theorem SlH.nil (w : World) (lo : Nat) (A : Option Addr) : SlH w lo A [] := fun h => absurd h (by simp)
theorem own_slh {base q c : Nat} {e : TypeId} (h : Own w base e (.slice A q c) l) : SlH w base A l := by
  obtain ⟨A', c', hv, -, -, hs, ha⟩ := h.form
  simp only [Value.slice.injEq] at hv
  obtain ⟨rfl, -, -⟩ := hv
  exact fun hl => by
    obtain ⟨b, off, hb, h1, h2⟩ := hs hl
    exact ⟨b, off, hb, ha _ hb, h1, h2⟩
end
end Go.Proofs.YtdjleimndolonaaDoor.anc
