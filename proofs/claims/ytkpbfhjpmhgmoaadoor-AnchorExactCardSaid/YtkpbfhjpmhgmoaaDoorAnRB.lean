/-
  The document's own bytes of an anchor. Conditions: an anchor that is right.
-/
import Derived.Test.YtkpbfhjpmhgmoaaDoorAnU
import Derived.Test.YtkpbfhjpmhgmoaaDoorPkD
import Derived.Deep.RegionHeld3
import Derived.Deep.CutRange
import Derived.IntWalk
namespace Go.Proofs.YtkpbfhjpmhgmoaaDoor.anc
open Go.RowKit Go.Lib
open Go.Proofs.YtkpbfhjpmhgmoaaDoor.gmt (Ok)
open Go.Proofs.YtkpbfhjpmhgmoaaDoor.pck (le le_length ref_put)
open Go.Proofs.YtkpbfhjpmhgmoaaDoor.lbl (encL labE lab_len)

/-- A slice of one's own that holds q bytes. -/
def HasB (W : World) (B : Nat) (X : Option Addr) (q x : Nat) (l : List UInt8) : Prop := l.length = q ∧ Own W B 5 (.slice X q x) l
theorem HasB.below {W W' : World} {B : Nat} {X : Option Addr} {q x : Nat} {l : List UInt8} (h : HasB W B X q x l) (hb : Below W.heap.size W W') : HasB W' B X q x l := ⟨h.1, h.2.below hb⟩
theorem HasB.sl {W : World} {B : Nat} {X : Option Addr} {q x : Nat} {l : List UInt8} (h : HasB W B X q x l) : Sl W W.heap.size X l := by
  obtain ⟨A, c, hv, -, -, hs, -⟩ := h.2.form
  simp only [Value.slice.injEq] at hv
  rw [hv.1]
  exact hs
theorem hasB_nil (W : World) (B : Nat) : HasB W B none 0 0 [] := ⟨rfl, own_nil _ _ _⟩
theorem one_hasB {W : World} {base B q : Nat} {e : Ending} {l : List UInt8} (h : One base l e W) (hB : B ≤ base) (hq : l.length = q) : ∃ X x, e = .returned (.slice X q x) ∧ HasB W B X q x l := by
  obtain ⟨v, rfl, ho⟩ := h
  obtain ⟨X, x, hv, -, -, -, -⟩ := ho.form
  rw [hq] at hv
  subst hv
  exact ⟨X, x, rfl, hq, ho.less hB⟩
theorem putH (k q q' B : Nat) (K n : Int) (X : Option Addr) (x : Nat) (l l' : List UInt8) (W : World) (hK : K = k) (hk : k ≤ 8) (h0 : 0 ≤ n) (h1 : n < 4294967296) (hq : q + k = q') (hl : q ≤ 1048576) (hB : B ≤ W.heap.size) (h : HasB W B X q x l) (he : l ++ le k n.toNat = l') :
    Calls Tryd.prog 45 #[.slice X q x, .int .i64 n, .int .i64 K] W fun e w' => (∃ X x, e = .returned (.slice X q' x) ∧ HasB w' B X q' x l') ∧ Below W.heap.size W w' := by
  subst hK
  obtain ⟨m, rfl⟩ : ∃ m : Nat, n = m := ⟨n.toNat, by omega⟩
  refine (ref_put k m q X x l W hk (by omega) h.1 hl h.sl).mono ?_
  rintro e w' ⟨ho, hb⟩
  rw [Int.toNat_natCast] at he
  rw [he] at ho
  exact ⟨one_hasB ho hB (by rw [← he, List.length_append, le_length, h.1, hq]), hb⟩
theorem own_hasB {W w0 : World} {B : Nat} {v : Value} {l : List UInt8} (h : Own W B 5 v l) (hb : Below B w0 W) : ∃ (X : Option Addr) (q y : Nat), v = .slice X q y ∧ HasB W B X q y l ∧ Below B w0 W := by
  obtain ⟨X, y, rfl, -, -, -, -⟩ := h.form
  exact ⟨X, _, y, rfl, ⟨rfl, h⟩, hb⟩
/-- What stands of the bytes when k homes are put. -/
def upH (a : Anc) (k : Nat) : List UInt8 := encN a ++ encL a.lab.data.toList ++ (a.hs.take k).flatMap encH
theorem upH_zero (a : Anc) : upH a 0 = encN a ++ encL a.lab.data.toList := by unfold upH; simp
theorem upH_all (a : Anc) (k : Nat) (h : a.hs.length ≤ k) : upH a k = encA a := by
  unfold upH encA encT
  rw [List.take_of_length_le h, List.append_assoc]
theorem upH_next {a : Anc} {k : Nat} {h : Hom} (hk : a.hs[k]? = some h) : upH a (k + 1) = upH a k ++ encH h := by
  unfold upH
  rw [take_next hk, List.flatMap_append]
  simp
theorem encH_cut (h : Hom) (t : Nat) : encH h = (h.ps.take t).flatMap (fun p => le 1 p.toNat) ++ ((h.ps.drop t).flatMap (fun p => le 1 p.toNat) ++ (le 1 h.nx.toNat ++ le 4 h.rt.toNat)) := by
  have e : h.ps.flatMap (fun p => le 1 p.toNat) = (h.ps.take t).flatMap (fun p => le 1 p.toNat) ++ (h.ps.drop t).flatMap (fun p => le 1 p.toNat) := by rw [← List.flatMap_append, List.take_append_drop]
  unfold encH
  rw [e, List.append_assoc]
theorem upH_le (a : Anc) (k : Nat) : (upH a k).length ≤ (encA a).length := by
  have e : encA a = upH a k ++ (a.hs.drop k).flatMap encH := by
    unfold upH encA encT
    rw [List.append_assoc, List.append_assoc, ← List.flatMap_append, List.take_append_drop]
  rw [e, List.length_append]
  omega

set_option maxRecDepth 100000 in
set_option maxHeartbeats 8000000 in
theorem rbytes_any (z d s l a : Int) (x : AV) (w : World) (ho : Ok z d s l a) (hx : x.In w w.heap.size) (hg : Good z d s l x.d) :
    Calls Tryd.prog 23 #[x.v] w fun e w' => One w.heap.size (encA x.d) e w' ∧ Below w.heap.size w w' := by
  have hab := good_b ho hg
  have hlen := encA_len hab
  obtain ⟨o1, o2, o3, o4, -⟩ := id ho
  obtain ⟨a1, a2, a3, a4, -, a5, aE, a7, a6⟩ := id hg
  have hl24 : x.lab.size ≤ 24 := by have := lab_len aE; rwa [size_list] at this
  have h200 : (encA x.d).length ≤ 200 := by
    have h3 := Nat.mul_le_mul (show z.toNat ≤ 4 by omega) (show d.toNat + 6 ≤ 10 by omega)
    have h4 : (encA x.d).length = 18 + x.lab.size + z.toNat * (d.toNat + 6) := hlen
    omega
  have hup : ∀ k, (upH x.d k).length ≤ 200 := fun k => Nat.le_trans (upH_le x.d k) h200
  have hn4 : x.hs.length ≤ 4 := by have e : x.d.hs.length = x.hs.length := hds_length x.hs; omega
  replace a1 : 0 ≤ x.gen ∧ x.gen ≤ 4294967295 := a1
  replace a2 : 0 ≤ x.ep ∧ x.ep ≤ 4294967295 := a2
  replace a3 : 1 ≤ x.seq ∧ x.seq ≤ 4294967295 := a3
  replace a4 : 0 ≤ x.last ∧ x.last ≤ 4294967295 := a4
  replace a5 : 0 ≤ x.pos ∧ x.pos ≤ l - 1 := a5
  unfold AV.v
  have F := ac_new w x
  have hb0 : Below (w.heap.size + 1) (w.alloc (.cells #[.int .i64 x.gen, .int .i64 x.ep, .int .i64 x.pos, .int .i64 x.seq, .int .i64 x.last, .string x.lab, .slice x.HA x.hs.length x.hc] 26)) (w.alloc (.cells #[.int .i64 x.gen, .int .i64 x.ep, .int .i64 x.pos, .int .i64 x.seq, .int .i64 x.last, .string x.lab, .slice x.HA x.hs.length x.hc] 26)) := Below.refl _ _
  have hz0 : (w.alloc (.cells #[.int .i64 x.gen, .int .i64 x.ep, .int .i64 x.pos, .int .i64 x.seq, .int .i64 x.last, .string x.lab, .slice x.HA x.hs.length x.hc] 26)).heap.size = w.heap.size + 1 := by simp
  have hbw := bl w (.cells #[.int .i64 x.gen, .int .i64 x.ep, .int .i64 x.pos, .int .i64 x.seq, .int .i64 x.last, .string x.lab, .slice x.HA x.hs.length x.hc] 26)
  have hl : w.heap.size + 1 ≤ (w.alloc (.cells #[.int .i64 x.gen, .int .i64 x.ep, .int .i64 x.pos, .int .i64 x.seq, .int .i64 x.last, .string x.lab, .slice x.HA x.hs.length x.hc] 26)).heap.size := by simp
  have p1 := fun (W : World) (hW : w.heap.size + 1 ≤ W.heap.size) => putH 4 0 4 (w.heap.size + 1) 4 x.gen none 0 [] (le 4 x.gen.toNat) W rfl (by omega) a1.1 (by omega) rfl (by omega) hW (hasB_nil W _) rfl
  have p2 := fun (W : World) (X : Option Addr) (y : Nat) (hW : w.heap.size + 1 ≤ W.heap.size) (h : HasB W (w.heap.size + 1) X 4 y (le 4 x.gen.toNat)) => putH 4 4 8 (w.heap.size + 1) 4 x.ep X y _ (le 4 x.gen.toNat ++ le 4 x.ep.toNat) W rfl (by omega) a2.1 (by omega) rfl (by omega) hW h rfl
  have p3 := fun (W : World) (X : Option Addr) (y : Nat) (hW : w.heap.size + 1 ≤ W.heap.size) (h : HasB W (w.heap.size + 1) X 8 y (le 4 x.gen.toNat ++ le 4 x.ep.toNat)) => putH 4 8 12 (w.heap.size + 1) 4 x.seq X y _ (le 4 x.gen.toNat ++ le 4 x.ep.toNat ++ le 4 x.seq.toNat) W rfl (by omega) (by omega) (by omega) rfl (by omega) hW h rfl
  have p4 := fun (W : World) (X : Option Addr) (y : Nat) (hW : w.heap.size + 1 ≤ W.heap.size) (h : HasB W (w.heap.size + 1) X 12 y (le 4 x.gen.toNat ++ le 4 x.ep.toNat ++ le 4 x.seq.toNat)) => putH 4 12 16 (w.heap.size + 1) 4 x.last X y _ (le 4 x.gen.toNat ++ le 4 x.ep.toNat ++ le 4 x.seq.toNat ++ le 4 x.last.toNat) W rfl (by omega) a4.1 (by omega) rfl (by omega) hW h rfl
  have P5 := Lib.hid (fun (W : World) (X : Option Addr) (y : Nat) (hW : w.heap.size + 1 ≤ W.heap.size) (h : HasB W (w.heap.size + 1) X 16 y (le 4 x.gen.toNat ++ le 4 x.ep.toNat ++ le 4 x.seq.toNat ++ le 4 x.last.toNat)) => putH 1 16 17 (w.heap.size + 1) 1 x.pos X y _ (encN x.d) W rfl (by omega) a5.1 (by omega) rfl (by omega) hW h (by unfold encN; simp only [List.append_assoc]; rfl))
  have HB := Lib.hid (show ∀ W : World, w.heap.size + 1 ≤ W.heap.size → Calls Tryd.prog 46 #[.string x.lab] W fun e w' => (∃ X y, e = .returned (.slice X (encL x.lab.data.toList).length y) ∧ HasB w' (w.heap.size + 1) X (encL x.lab.data.toList).length y (encL x.lab.data.toList)) ∧ Below W.heap.size W w' from fun W hW =>
    (lbl.ref_bytes x.lab W (by omega)).mono fun e w' h => ⟨one_hasB h.1 hW rfl, h.2⟩)
  have HX := Lib.hid hx
  have HUP := Lib.hid hup
  have H6 := Lib.hid a6
  have HN17 := Lib.hid (encN_len x.d)
  have hll := encL_len x.lab.data.toList
  rw [size_list] at hll
  have HLL := Lib.hid hll
  clear hab hlen ho hg aE a6 hup hx h200 hll
  go_enter Tryd.func23, Tryd.ntmps23
  go_upto_region 1 with fail
  have HXI := Lib.hid (HX.out.below hbw)
  clear HX
  generalize w.alloc (.cells #[.int .i64 x.gen, .int .i64 x.ep, .int .i64 x.pos, .int .i64 x.seq, .int .i64 x.last, .string x.lab, .slice x.HA x.hs.length x.hc] 26) = w0 at *
  have F0 := F
  have hl0 := hl
  obtain ⟨c0, c1, c2, c3, c4, c5, c6⟩ := id F
  go_upto_region 5 with (first
    | (go_at_call 45; (with_reducible refine (p1 _ hl).mono ?_); rintro e w1 ⟨⟨X1, y1, rfl, q1⟩, hbq⟩; replace hb0 := bm hb0 (by omega) hbq; replace F := F.keep hbq (by omega); replace hl := Nat.le_trans hl hbq.size; clear c0 c1 c2 c3 c4 c5 c6; obtain ⟨c0, c1, c2, c3, c4, c5, c6⟩ := id F; clear hbq)
    | (go_at_call 45; (with_reducible refine (p2 _ _ _ hl q1).mono ?_); rintro e w2 ⟨⟨X2, y2, rfl, q2⟩, hbq⟩; replace hb0 := bm hb0 (by omega) hbq; replace F := F.keep hbq (by omega); replace hl := Nat.le_trans hl hbq.size; clear c0 c1 c2 c3 c4 c5 c6; obtain ⟨c0, c1, c2, c3, c4, c5, c6⟩ := id F; clear hbq)
    | (go_at_call 45; (with_reducible refine (p3 _ _ _ hl q2).mono ?_); rintro e w3 ⟨⟨X3, y3, rfl, q3⟩, hbq⟩; replace hb0 := bm hb0 (by omega) hbq; replace F := F.keep hbq (by omega); replace hl := Nat.le_trans hl hbq.size; clear c0 c1 c2 c3 c4 c5 c6; obtain ⟨c0, c1, c2, c3, c4, c5, c6⟩ := id F; clear hbq)
    | (go_at_call 45; (with_reducible refine (p4 _ _ _ hl q3).mono ?_); rintro e w4 ⟨⟨X4, y4, rfl, q4⟩, hbq⟩; replace hb0 := bm hb0 (by omega) hbq; replace F := F.keep hbq (by omega); replace hl := Nat.le_trans hl hbq.size; clear c0 c1 c2 c3 c4 c5 c6; obtain ⟨c0, c1, c2, c3, c4, c5, c6⟩ := id F; clear hbq))
  clear p1 p2 p3 p4 q1 q2 q3
  have HF := Lib.hid (show ∀ W, Below (w.heap.size + 1) w0 W → W.cell? ⟨w.heap.size, 2, none⟩ = some (.int .i64 x.pos) ∧ W.cell? ⟨w.heap.size, 5, none⟩ = some (.string x.lab) ∧ Below (w.heap.size + 1) w0 W from fun W h => ⟨(F0.keep h (by omega)).c2, (F0.keep h (by omega)).c5, h⟩)
  go_cut [3] from 21 to 29 (fun v wx => ∃ (X : Option Addr) (q y : Nat), v = .slice X q y ∧ HasB wx (w.heap.size + 1) X q y (upH x.d 0) ∧ Below (w.heap.size + 1) w0 wx)
  case first =>
    have Q4 := Lib.hid q4
    have hlD : w.heap.size + 1 ≤ w4.drew.heap.size := hl
    clear q4 c0 c1 c2 c3 c4 c5 c6 F
    go_region_held3 (fun W => W.cell? ⟨w.heap.size, 2, none⟩ = some (.int .i64 x.pos) ∧ W.cell? ⟨w.heap.size, 5, none⟩ = some (.string x.lab) ∧ Below (w.heap.size + 1) w0 W)
      ((first
        | exact HF.out _ t7
        | exact HF.out _ (bm hb0 hl0 t56)
        | exact HF.out _ (bm hb0 hl0 t65)
        | exact HF.out _ (bm hb0 hl0 t5)
        | exact HF.out _ (bm hb0 hl0 t6)
        | exact HF.out _ (below_dr hb0)
        | fail))
      (first
        | (go_at_call 45; (with_reducible refine (P5.out _ _ _ hlD (Q4.out.below (below_dr (Below.refl _ _)))).mono ?_); rintro e w5 ⟨⟨X5, y5, rfl, q5⟩, hb5⟩; have t5 : Below w4.heap.size w4 w5 := bt (below_dr (Below.refl w4.heap.size w4)) hb5)
        | (go_at_call 45; (with_reducible refine (P5.out _ _ _ (Nat.le_trans hl t6.size) (Q4.out.below t6)).mono ?_); rintro e w5 ⟨⟨X5, y5, rfl, q5⟩, hb5⟩; have q6 := q6.below hb5; have t65 : Below w4.heap.size w4 w5 := bt t6 hb5)
        | (go_at_call 46; (with_reducible refine (HB.out _ (Nat.le_trans hl t5.size)).mono ?_); rintro e w6 ⟨⟨X6, y6, rfl, q6⟩, hb6⟩; have q5 := q5.below hb6; have t56 : Below w4.heap.size w4 w6 := bt t5 hb6)
        | (go_at_call 46; (with_reducible refine (HB.out _ hlD).mono ?_); rintro e w6 ⟨⟨X6, y6, rfl, q6⟩, hb6⟩; have t6 : Below w4.heap.size w4 w6 := bt (below_dr (Below.refl w4.heap.size w4)) hb6)
        | (refine step_app8 _ (by rfl) _ _ _ _ (by rfl) (w.heap.size + 1) 5 t8 (.slice X5 17 y5) (encN x.d) (by rfl) q5.2 _ (encL x.lab.data.toList) (by rfl) (q6.sl.src (P := Tryd.prog) Tryd.underlying27 y6) (by rw [HLL.out, HN17.out]; omega) (Nat.le_trans hl (by first | exact t56.size | exact t65.size)) ?_; intro v7 w7 q7 hg7 hat7; have t7 : Below (w.heap.size + 1) w0 w7 := Below.grown (by first | exact bm hb0 (by omega) t56 | exact bm hb0 (by omega) t65) hg7 (by first | exact Nat.le_trans hl t56.size | exact Nat.le_trans hl t65.size) (fun q hq => (World.ownsRow.lt q5.2 q hq).1))
        | (refine step_app8 _ (by rfl) _ _ _ _ (by rfl) (w.heap.size + 1) 5 t8 (.slice X5 17 y5) (encN x.d) (by rfl) q5.2 _ (encL x.lab.data.toList) (by rfl) (q6.sl.src (P := Tryd.prog) Tryd.underlying27 y6) (by rw [HLL.out, HN17.out]; omega) (Nat.le_trans hl (by first | exact t56.size | exact t65.size)) ?_; intro v7 w7 q7 hg7 hat7; have t7 : Below (w.heap.size + 1) w0 w7 := Below.grown (by first | exact bm hb0 (by omega) t56 | exact bm hb0 (by omega) t65) hg7 (by first | exact Nat.le_trans hl t56.size | exact Nat.le_trans hl t65.size) (fun q hq => (World.ownsRow.lt q5.2 q hq).1))
        | fail)
    all_goals (go_wp2_with fail; go_meet)
    all_goals exact own_hasB (by rw [upH_zero]; exact q7) t7
  case rest =>
    obtain ⟨w5, rfl⟩ : ∃ x, x = wc := ⟨wc, rfl⟩
    obtain ⟨X5, q5, z5, rfl, h5, hb5⟩ := hcut
    clear c0 c1 c2 c3 c4 c5 c6 F q4 hb0 hl P5 HB HF
    obtain ⟨c0, c1, c2, c3, c4, c5, c6⟩ := id (F0.keep hb5 (by omega))
    go_wp2_with fail
    go_loopw [3, 4] (fun v i w' => ∃ (k : Nat) (X : Option Addr) (q y : Nat), k ≤ x.hs.length ∧ i = .int .i64 k ∧ v = .slice X q y ∧ HasB w' (w.heap.size + 1) X q y (upH x.d k) ∧ Below (w.heap.size + 1) w0 w') (fun _ i _ => x.hs.length - (RowKit.intOf i).toNat)
    case atStart => exact ⟨0, X5, q5, z5, by omega, rfl, rfl, h5, hb5⟩
    case round =>
      obtain ⟨w6, rfl⟩ : ∃ x, x = wr := ⟨wr, rfl⟩
      obtain ⟨k, X6, q6, y6, hk, rfl, rfl, h6, hb6⟩ := hrel
      clear c0 c1 c2 c3 c4 c5 c6 h5 hb5
      obtain ⟨c0, c1, c2, c3, c4, c5, c6⟩ := id (F0.keep hb6 (by omega))
      by_cases hlt : k < x.hs.length
      · obtain ⟨b1, off, u, hHA, hbb, r0, r1, r2, m1, hu, -, e1⟩ := home_at (HXI.out.below (hb6.mono (by omega))).hh (HXI.out.below (hb6.mono (by omega))).hi hlt
        have hok := H6.out u.d (List.mem_map_of_mem hu)
        obtain ⟨k1, k2, k3, k4⟩ := hok
        have hnx : 0 ≤ u.nx ∧ u.nx ≤ 7 := by have h1 : d + 1 ≤ u.nx ∧ u.nx ≤ d + 1 + s := k2; omega
        have hrt : 0 ≤ u.rt ∧ u.rt ≤ 4294967295 := k3
        have hun := upH_next (a := x.d) e1
        have hmid : ∀ t, (upH x.d k ++ (u.ps.take t).flatMap (fun p => le 1 p.toNat)).length ≤ 200 := fun t => by
          have h1 := HUP.out (k + 1)
          rw [hun, encH_cut u.d t] at h1
          rw [List.length_append] at h1 ⊢
          rw [List.length_append] at h1
          exact Nat.le_trans (Nat.add_le_add_left (Nat.le_add_right _ _) _) h1
        have hps : ∀ (t : Nat) (ht : t < u.ps.length), 0 ≤ u.ps[t] ∧ u.ps[t] < 256 := fun t ht => by
          have h1 : 0 ≤ u.ps[t] ∧ u.ps[t] ≤ u.nx - 1 := (k4 t ht).1
          omega
        have hpn : u.ps.length ≤ 5 := by have h1 : (u.ps.length : Int) = d + 1 := k1; omega
        have i1 : (k : Int) < (x.hs.length : Int) := by omega
        have i2 : (0 : Int) ≤ (k : Int) := by omega
        have HUN := Lib.hid hun
        have HMID := Lib.hid hmid
        have HPS := Lib.hid hps
        have HM1 := Lib.hid (show SlV w6 w.heap.size u.A (ints u.ps) from m1.1)
        have HR := Lib.hid (show ∀ W, Below (w.heap.size + 1) w6 W → W.cell? ⟨b1, off + k * 3, none⟩ = some (.slice u.A u.ps.length u.c) ∧ W.cell? ⟨b1, off + k * 3 + 1, none⟩ = some (.int .i64 u.nx) ∧ W.cell? ⟨b1, off + k * 3 + 2, none⟩ = some (.int .i64 u.rt) from fun W h => ⟨ks h (by omega) r0, ks h (by omega) r1, ks h (by omega) r2⟩)
        rw [hHA] at c6
        have HC6 := Lib.hid (show ∀ W, Below (w.heap.size + 1) w6 W → W.cell? ⟨w.heap.size, 6, none⟩ = some (.slice (some ⟨b1, off, none⟩) x.hs.length x.hc) from fun W h => ks h (by omega) c6)
        clear hmid hps hun e1 k1 k2 k3 k4 m1 hu r1 r2
        have hz6 := hb6.size
        go_wp2_with fail
        go_loopw [3, 5] (fun v i w' => ∃ (t : Nat) (X : Option Addr) (q y : Nat), t ≤ u.ps.length ∧ i = .int .i64 t ∧ v = .slice X q y ∧ HasB w' (w.heap.size + 1) X q y (upH x.d k ++ (u.ps.take t).flatMap (fun p => le 1 p.toNat)) ∧ Below (w.heap.size + 1) w6 w') (fun _ i _ => u.ps.length - (RowKit.intOf i).toNat)
        case atStart => exact ⟨0, X6, q6, y6, by omega, rfl, rfl, by simpa using h6, Below.refl _ _⟩
        case round =>
          obtain ⟨w7, rfl⟩ : ∃ x, x = wr := ⟨wr, rfl⟩
          obtain ⟨t, X7, q7, y7, ht, rfl, rfl, h7, hb7⟩ := hrel
          have hz7 := hb7.size
          have hq7 : q7 ≤ 200 := by rw [← h7.1]; exact HMID.out t
          clear c6 r0
          obtain ⟨r0, r1, r2⟩ := HR.out _ hb7
          have c6 := HC6.out _ hb7
          by_cases htl : t < u.ps.length
          · have i3 : (t : Int) < (u.ps.length : Int) := by omega
            have i4 : (0 : Int) ≤ (t : Int) := by omega
            obtain ⟨bp, op, hA2, hbp, hcp⟩ := (HM1.out.below (hb7.mono (Nat.le_succ _))) (by rw [ints_length]; omega)
            have e0 := hcp t (by rw [ints_length]; exact htl)
            rw [ints_get] at e0
            rw [hA2] at r0
            have PQ := Lib.hid (putH 1 q7 (q7 + 1) (w.heap.size + 1) 1 u.ps[t] X7 y7 _ _ w7 rfl (by omega) (HPS.out t htl).1 (by have := (HPS.out t htl).2; omega) rfl (by omega) (by omega) h7 rfl)
            have HT := Lib.hid (show upH x.d k ++ (u.ps.take (t + 1)).flatMap (fun p => le 1 p.toNat) = upH x.d k ++ (u.ps.take t).flatMap (fun p => le 1 p.toNat) ++ le 1 u.ps[t].toNat from by
              rw [List.take_succ_eq_append_getElem htl, List.flatMap_append, List.append_assoc]
              simp)
            clear hcp hA2 r1 r2 hHA
            go_wp2_with (go_at_call 45; (with_reducible refine PQ.out.mono ?_); rintro e w8 ⟨⟨X8, y8, rfl, q8⟩, hb8⟩)
            go_roundw
            case rel => exact ⟨t + 1, X8, q7 + 1, y8, by omega, by go_num, rfl, by rw [HT.out]; exact q8, bm hb7 (by omega) hb8⟩
            case measure => simp [RowKit.intOf]; omega
          · have i3 : ¬ (t : Int) < (u.ps.length : Int) := by omega
            have hlist : upH x.d k ++ (u.ps.take t).flatMap (fun p => le 1 p.toNat) = upH x.d k ++ u.ps.flatMap (fun p => le 1 p.toNat) := by rw [List.take_of_length_le (by omega)]
            rw [hlist] at h7
            have H7 := Lib.hid h7
            have PA := Lib.hid (fun (W : World) (hW : w.heap.size + 1 ≤ W.heap.size) (h : HasB W (w.heap.size + 1) X7 q7 y7 (upH x.d k ++ u.ps.flatMap (fun p => le 1 p.toNat))) => putH 1 q7 (q7 + 1) (w.heap.size + 1) 1 u.nx X7 y7 _ _ W rfl (by omega) hnx.1 (by omega) rfl (by omega) hW h rfl)
            have PB := Lib.hid (fun (W : World) (X : Option Addr) (y : Nat) (hW : w.heap.size + 1 ≤ W.heap.size) (h : HasB W (w.heap.size + 1) X (q7 + 1) y (upH x.d k ++ u.ps.flatMap (fun p => le 1 p.toNat) ++ le 1 u.nx.toNat)) => putH 4 (q7 + 1) (q7 + 5) (w.heap.size + 1) 4 u.rt X y _ (upH x.d (k + 1)) W rfl (by omega) hrt.1 (by omega) rfl (by omega) hW h (by rw [HUN.out]; unfold encH; simp only [List.append_assoc]; rfl))
            have HS := Lib.hid (show ∀ W, Below (w.heap.size + 1) w6 W → W.cell? ⟨w.heap.size, 6, none⟩ = some (.slice (some ⟨b1, off, none⟩) x.hs.length x.hc) ∧ W.cell? ⟨b1, off + k * 3 + 1, none⟩ = some (.int .i64 u.nx) ∧ W.cell? ⟨b1, off + k * 3 + 2, none⟩ = some (.int .i64 u.rt) ∧ Below (w.heap.size + 1) w6 W from fun W h => ⟨HC6.out W h, (HR.out W h).2.1, (HR.out W h).2.2, h⟩)
            have hlD : w.heap.size + 1 ≤ w7.drew.heap.size := by show _ ≤ w7.heap.size; omega
            have hl7 : w.heap.size + 1 ≤ w6.heap.size := by omega
            clear h7 hlist HC6 HR HPS HMID hHA h6
            go_wp2_with fail
            go_region_held3 (fun W => W.cell? ⟨w.heap.size, 6, none⟩ = some (.slice (some ⟨b1, off, none⟩) x.hs.length x.hc) ∧ W.cell? ⟨b1, off + k * 3 + 1, none⟩ = some (.int .i64 u.nx) ∧ W.cell? ⟨b1, off + k * 3 + 2, none⟩ = some (.int .i64 u.rt) ∧ Below (w.heap.size + 1) w6 W)
              ((first
                | exact HS.out _ (bm (bm hb7 hl7 (bt (below_dr (Below.refl w7.heap.size w7)) hb8)) hl7 hb9)
                | exact HS.out _ (bm hb7 hl7 (bt (below_dr (Below.refl w7.heap.size w7)) hb8))
                | exact HS.out _ (below_dr hb7)
                | fail))
              (first
                | (go_at_call 45; (with_reducible refine (PA.out _ hlD (H7.out.below (below_dr (Below.refl _ _)))).mono ?_); rintro e w8 ⟨⟨X8, y8, rfl, q8⟩, hb8⟩; have hl8 := Nat.le_trans hlD hb8.size)
                | (go_at_call 45; (with_reducible refine (PB.out _ _ _ hl8 q8).mono ?_); rintro e w9 ⟨⟨X9, y9, rfl, q9⟩, hb9⟩)
                | fail)
            have hb79 : Below (w.heap.size + 1) w6 w9 := bm (bm hb7 hl7 (bt (below_dr (Below.refl w7.heap.size w7)) hb8)) hl7 hb9
            have hbR := hb6.trans hb79
            have Q9 := Lib.hid q9
            clear q9 q8 hb79 hb8 hb9
            go_wp2_with fail
            go_roundw
            case rel => exact ⟨k + 1, X9, q7 + 5, y9, by omega, by go_num, rfl, Q9.out, hbR⟩
            case measure => simp [RowKit.intOf]; omega
      · have i1 : ¬ (k : Int) < (x.hs.length : Int) := by omega
        have he := upH_all x.d k (by have e : x.d.hs.length = x.hs.length := hds_length x.hs; omega)
        rw [he] at h6
        clear he
        go_wp2_with fail
        go_ret
        exact ⟨⟨_, rfl, h6.2.less (by omega)⟩, hbw.trans (hb6.mono (by omega))⟩
end Go.Proofs.YtkpbfhjpmhgmoaaDoor.anc
