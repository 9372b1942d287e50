/-
  The document's own bytes of an anchor. Conditions: an anchor that is right.
  The document's own reading of an anchor. Conditions: a right geometry, not more bytes than the statements play.
  The document's own reading of an anchor: bytes of as many as an anchor has. Conditions: a right geometry, not more bytes than the statements play.
  The document's own reading of an anchor, as the law calls it: of bytes that are a right anchor's, and of any others. Conditions: a right geometry, at most 300 bytes.
-/
import Derived.Test.YtdjleimndolonaaDoorGAu
import Derived.Test.YtdjleimndolonaaDoorPkD
import Derived.Deep.RegionHeld3
import Derived.Deep.CutRange
import Derived.IntWalk
import Derived.Test.YtdjleimndolonaaDoorGAw
import Derived.Test.YtdjleimndolonaaDoorTail
namespace Go.Proofs.YtdjleimndolonaaDoor.anc
open Go.RowKit Go.Lib
open Go.Proofs.YtdjleimndolonaaDoor.gmt (Ok)
open Go.Proofs.YtdjleimndolonaaDoor.pck (le le_length ref_put)
open Go.Proofs.YtdjleimndolonaaDoor.lbl (encL labE lab_len)

/-- A slice of one's own that holds q bytes. -/
def HasB (W : World) (B : Nat) (X : Option Addr) (q x : Nat) (l : List UInt8) : Prop := l.length = q ∧ Own W B 5 (.slice X q x) l
theorem HasB.below {W W' : World} {B : Nat} {X : Option Addr} {q x : Nat} {l : List UInt8} (h : HasB W B X q x l) (hb : Below W.heap.size W W') : HasB W' B X q x l := ⟨h.1, h.2.below hb⟩
theorem HasB.sl {W : World} {B : Nat} {X : Option Addr} {q x : Nat} {l : List UInt8} (h : HasB W B X q x l) : Sl W W.heap.size X l := by
  obtain ⟨A, c, hv, -, -, hs, -⟩ := h.2.form
  simp only [Value.slice.injEq] at hv
  rw [hv.1]
  exact hs
theorem hasB_nil (W : World) (B : Nat) : HasB W B none 0 0 [] := ⟨rfl, own_nil _ _ _⟩
theorem one_hasB {W : World} {base B q : Nat} {e : Ending} {l : List UInt8} (h : One base l e W) (hB : B ≤ base) (hq : l.length = q) : ∃ X x, e = .returned (.slice X q x) ∧ HasB W B X q x l := by
  obtain ⟨v, rfl, ho⟩ := h
  obtain ⟨X, x, hv, -, -, -, -⟩ := ho.form
  rw [hq] at hv
  subst hv
  exact ⟨X, x, rfl, hq, ho.less hB⟩
theorem putH (k q q' B : Nat) (K n : Int) (X : Option Addr) (x : Nat) (l l' : List UInt8) (W : World) (hK : K = k) (hk : k ≤ 8) (h0 : 0 ≤ n) (h1 : n < 4294967296) (hq : q + k = q') (hl : q ≤ 1048576) (hB : B ≤ W.heap.size) (h : HasB W B X q x l) (he : l ++ le k n.toNat = l') :
    Calls Tryd.prog 42 #[.slice X q x, .int .i64 n, .int .i64 K] W fun e w' => (∃ X x, e = .returned (.slice X q' x) ∧ HasB w' B X q' x l') ∧ Below W.heap.size W w' := by
  subst hK
  obtain ⟨m, rfl⟩ : ∃ m : Nat, n = m := ⟨n.toNat, by omega⟩
  refine (ref_put k m q X x l W hk (by omega) h.1 hl h.sl).mono ?_
  rintro e w' ⟨ho, hb⟩
  rw [Int.toNat_natCast] at he
  rw [he] at ho
  exact ⟨one_hasB ho hB (by rw [← he, List.length_append, le_length, h.1, hq]), hb⟩
theorem own_hasB {W w0 : World} {B : Nat} {v : Value} {l : List UInt8} (h : Own W B 5 v l) (hb : Below B w0 W) : ∃ (X : Option Addr) (q y : Nat), v = .slice X q y ∧ HasB W B X q y l ∧ Below B w0 W := by
  obtain ⟨X, y, rfl, -, -, -, -⟩ := h.form
  exact ⟨X, _, y, rfl, ⟨rfl, h⟩, hb⟩
/-- What stands of the bytes when k homes are put. -/
def upH (a : Anc) (k : Nat) : List UInt8 := encN a ++ encL a.lab.data.toList ++ (a.hs.take k).flatMap encH
theorem upH_zero (a : Anc) : upH a 0 = encN a ++ encL a.lab.data.toList := by unfold upH; simp
theorem upH_all (a : Anc) (k : Nat) (h : a.hs.length ≤ k) : upH a k = encA a := by
  unfold upH encA encT
  rw [List.take_of_length_le h, List.append_assoc]
theorem upH_next {a : Anc} {k : Nat} {h : Hom} (hk : a.hs[k]? = some h) : upH a (k + 1) = upH a k ++ encH h := by
  unfold upH
  rw [take_next hk, List.flatMap_append]
  simp
theorem encH_cut (h : Hom) (t : Nat) : encH h = (h.ps.take t).flatMap (fun p => le 1 p.toNat) ++ ((h.ps.drop t).flatMap (fun p => le 1 p.toNat) ++ (le 1 h.nx.toNat ++ le 4 h.rt.toNat)) := by
  have e : h.ps.flatMap (fun p => le 1 p.toNat) = (h.ps.take t).flatMap (fun p => le 1 p.toNat) ++ (h.ps.drop t).flatMap (fun p => le 1 p.toNat) := by rw [← List.flatMap_append, List.take_append_drop]
  unfold encH
  rw [e, List.append_assoc]
theorem upH_le (a : Anc) (k : Nat) : (upH a k).length ≤ (encA a).length := by
  have e : encA a = upH a k ++ (a.hs.drop k).flatMap encH := by
    unfold upH encA encT
    rw [List.append_assoc, List.append_assoc, ← List.flatMap_append, List.take_append_drop]
  rw [e, List.length_append]
  omega

set_option maxRecDepth 100000 in
set_option maxHeartbeats 8000000 in
theorem rbytes_any (z d s l a : Int) (x : AV) (w : World) (ho : Ok z d s l a) (hx : x.In w w.heap.size) (hg : Good z d s l x.d) :
    Calls Tryd.prog 26 #[x.v] w fun e w' => One w.heap.size (encA x.d) e w' ∧ Below w.heap.size w w' := by
  have hab := good_b ho hg
  have hlen := encA_len hab
  obtain ⟨o1, o2, o3, o4, -⟩ := id ho
  obtain ⟨a1, a2, a3, a4, -, a5, aE, a7, a6⟩ := id hg
  have hl24 : x.lab.size ≤ 24 := by have := lab_len aE; rwa [size_list] at this
  have h200 : (encA x.d).length ≤ 200 := by
    have h3 := Nat.mul_le_mul (show z.toNat ≤ 4 by omega) (show d.toNat + 6 ≤ 10 by omega)
    have h4 : (encA x.d).length = 18 + x.lab.size + z.toNat * (d.toNat + 6) := hlen
    omega
  have hup : ∀ k, (upH x.d k).length ≤ 200 := fun k => Nat.le_trans (upH_le x.d k) h200
  have hn4 : x.hs.length ≤ 4 := by have e : x.d.hs.length = x.hs.length := hds_length x.hs; omega
  replace a1 : 0 ≤ x.gen ∧ x.gen ≤ 4294967295 := a1
  replace a2 : 0 ≤ x.ep ∧ x.ep ≤ 4294967295 := a2
  replace a3 : 1 ≤ x.seq ∧ x.seq ≤ 4294967295 := a3
  replace a4 : 0 ≤ x.last ∧ x.last ≤ 4294967295 := a4
  replace a5 : 0 ≤ x.pos ∧ x.pos ≤ l - 1 := a5
  unfold AV.v
  have F := ac_new w x
  have hb0 : Below (w.heap.size + 1) (w.alloc (.cells #[.int .i64 x.gen, .int .i64 x.ep, .int .i64 x.pos, .int .i64 x.seq, .int .i64 x.last, .string x.lab, .slice x.HA x.hs.length x.hc] 31)) (w.alloc (.cells #[.int .i64 x.gen, .int .i64 x.ep, .int .i64 x.pos, .int .i64 x.seq, .int .i64 x.last, .string x.lab, .slice x.HA x.hs.length x.hc] 31)) := Below.refl _ _
  have hz0 : (w.alloc (.cells #[.int .i64 x.gen, .int .i64 x.ep, .int .i64 x.pos, .int .i64 x.seq, .int .i64 x.last, .string x.lab, .slice x.HA x.hs.length x.hc] 31)).heap.size = w.heap.size + 1 := by simp
  have hbw := bl w (.cells #[.int .i64 x.gen, .int .i64 x.ep, .int .i64 x.pos, .int .i64 x.seq, .int .i64 x.last, .string x.lab, .slice x.HA x.hs.length x.hc] 31)
  have hl : w.heap.size + 1 ≤ (w.alloc (.cells #[.int .i64 x.gen, .int .i64 x.ep, .int .i64 x.pos, .int .i64 x.seq, .int .i64 x.last, .string x.lab, .slice x.HA x.hs.length x.hc] 31)).heap.size := by simp
  have p1 := fun (W : World) (hW : w.heap.size + 1 ≤ W.heap.size) => putH 4 0 4 (w.heap.size + 1) 4 x.gen none 0 [] (le 4 x.gen.toNat) W rfl (by omega) a1.1 (by omega) rfl (by omega) hW (hasB_nil W _) rfl
  have p2 := fun (W : World) (X : Option Addr) (y : Nat) (hW : w.heap.size + 1 ≤ W.heap.size) (h : HasB W (w.heap.size + 1) X 4 y (le 4 x.gen.toNat)) => putH 4 4 8 (w.heap.size + 1) 4 x.ep X y _ (le 4 x.gen.toNat ++ le 4 x.ep.toNat) W rfl (by omega) a2.1 (by omega) rfl (by omega) hW h rfl
  have p3 := fun (W : World) (X : Option Addr) (y : Nat) (hW : w.heap.size + 1 ≤ W.heap.size) (h : HasB W (w.heap.size + 1) X 8 y (le 4 x.gen.toNat ++ le 4 x.ep.toNat)) => putH 4 8 12 (w.heap.size + 1) 4 x.seq X y _ (le 4 x.gen.toNat ++ le 4 x.ep.toNat ++ le 4 x.seq.toNat) W rfl (by omega) (by omega) (by omega) rfl (by omega) hW h rfl
  have p4 := fun (W : World) (X : Option Addr) (y : Nat) (hW : w.heap.size + 1 ≤ W.heap.size) (h : HasB W (w.heap.size + 1) X 12 y (le 4 x.gen.toNat ++ le 4 x.ep.toNat ++ le 4 x.seq.toNat)) => putH 4 12 16 (w.heap.size + 1) 4 x.last X y _ (le 4 x.gen.toNat ++ le 4 x.ep.toNat ++ le 4 x.seq.toNat ++ le 4 x.last.toNat) W rfl (by omega) a4.1 (by omega) rfl (by omega) hW h rfl
  have P5 := Lib.hid (fun (W : World) (X : Option Addr) (y : Nat) (hW : w.heap.size + 1 ≤ W.heap.size) (h : HasB W (w.heap.size + 1) X 16 y (le 4 x.gen.toNat ++ le 4 x.ep.toNat ++ le 4 x.seq.toNat ++ le 4 x.last.toNat)) => putH 1 16 17 (w.heap.size + 1) 1 x.pos X y _ (encN x.d) W rfl (by omega) a5.1 (by omega) rfl (by omega) hW h (by unfold encN; simp only [List.append_assoc]; rfl))
  have HB := Lib.hid (show ∀ W : World, w.heap.size + 1 ≤ W.heap.size → Calls Tryd.prog 43 #[.string x.lab] W fun e w' => (∃ X y, e = .returned (.slice X (encL x.lab.data.toList).length y) ∧ HasB w' (w.heap.size + 1) X (encL x.lab.data.toList).length y (encL x.lab.data.toList)) ∧ Below W.heap.size W w' from fun W hW =>
    (lbl.ref_bytes x.lab W (by omega)).mono fun e w' h => ⟨one_hasB h.1 hW rfl, h.2⟩)
  have HX := Lib.hid hx
  have HUP := Lib.hid hup
  have H6 := Lib.hid a6
  have HN17 := Lib.hid (encN_len x.d)
  have hll := encL_len x.lab.data.toList
  rw [size_list] at hll
  have HLL := Lib.hid hll
  clear hab hlen ho hg aE a6 hup hx h200 hll
  go_enter Tryd.func26, Tryd.ntmps26
  go_upto_region 1 with fail
  have HXI := Lib.hid (HX.out.below hbw)
  clear HX
  generalize w.alloc (.cells #[.int .i64 x.gen, .int .i64 x.ep, .int .i64 x.pos, .int .i64 x.seq, .int .i64 x.last, .string x.lab, .slice x.HA x.hs.length x.hc] 31) = w0 at *
  have F0 := F
  have hl0 := hl
  obtain ⟨c0, c1, c2, c3, c4, c5, c6⟩ := id F
  go_upto_region 5 with (first
    | (go_at_call 42; (with_reducible refine (p1 _ hl).mono ?_); rintro e w1 ⟨⟨X1, y1, rfl, q1⟩, hbq⟩; replace hb0 := bm hb0 (by omega) hbq; replace F := F.keep hbq (by omega); replace hl := Nat.le_trans hl hbq.size; clear c0 c1 c2 c3 c4 c5 c6; obtain ⟨c0, c1, c2, c3, c4, c5, c6⟩ := id F; clear hbq)
    | (go_at_call 42; (with_reducible refine (p2 _ _ _ hl q1).mono ?_); rintro e w2 ⟨⟨X2, y2, rfl, q2⟩, hbq⟩; replace hb0 := bm hb0 (by omega) hbq; replace F := F.keep hbq (by omega); replace hl := Nat.le_trans hl hbq.size; clear c0 c1 c2 c3 c4 c5 c6; obtain ⟨c0, c1, c2, c3, c4, c5, c6⟩ := id F; clear hbq)
    | (go_at_call 42; (with_reducible refine (p3 _ _ _ hl q2).mono ?_); rintro e w3 ⟨⟨X3, y3, rfl, q3⟩, hbq⟩; replace hb0 := bm hb0 (by omega) hbq; replace F := F.keep hbq (by omega); replace hl := Nat.le_trans hl hbq.size; clear c0 c1 c2 c3 c4 c5 c6; obtain ⟨c0, c1, c2, c3, c4, c5, c6⟩ := id F; clear hbq)
    | (go_at_call 42; (with_reducible refine (p4 _ _ _ hl q3).mono ?_); rintro e w4 ⟨⟨X4, y4, rfl, q4⟩, hbq⟩; replace hb0 := bm hb0 (by omega) hbq; replace F := F.keep hbq (by omega); replace hl := Nat.le_trans hl hbq.size; clear c0 c1 c2 c3 c4 c5 c6; obtain ⟨c0, c1, c2, c3, c4, c5, c6⟩ := id F; clear hbq))
  clear p1 p2 p3 p4 q1 q2 q3
  have HF := Lib.hid (show ∀ W, Below (w.heap.size + 1) w0 W → W.cell? ⟨w.heap.size, 2, none⟩ = some (.int .i64 x.pos) ∧ W.cell? ⟨w.heap.size, 5, none⟩ = some (.string x.lab) ∧ Below (w.heap.size + 1) w0 W from fun W h => ⟨(F0.keep h (by omega)).c2, (F0.keep h (by omega)).c5, h⟩)
  go_cut [3] from 21 to 29 (fun v wx => ∃ (X : Option Addr) (q y : Nat), v = .slice X q y ∧ HasB wx (w.heap.size + 1) X q y (upH x.d 0) ∧ Below (w.heap.size + 1) w0 wx)
  case first =>
    have Q4 := Lib.hid q4
    have hlD : w.heap.size + 1 ≤ w4.drew.heap.size := hl
    clear q4 c0 c1 c2 c3 c4 c5 c6 F
    go_region_held3 (fun W => W.cell? ⟨w.heap.size, 2, none⟩ = some (.int .i64 x.pos) ∧ W.cell? ⟨w.heap.size, 5, none⟩ = some (.string x.lab) ∧ Below (w.heap.size + 1) w0 W)
      ((first
        | exact HF.out _ t7
        | exact HF.out _ (bm hb0 hl0 t56)
        | exact HF.out _ (bm hb0 hl0 t65)
        | exact HF.out _ (bm hb0 hl0 t5)
        | exact HF.out _ (bm hb0 hl0 t6)
        | exact HF.out _ (below_dr hb0)
        | fail))
      (first
        | (go_at_call 42; (with_reducible refine (P5.out _ _ _ hlD (Q4.out.below (below_dr (Below.refl _ _)))).mono ?_); rintro e w5 ⟨⟨X5, y5, rfl, q5⟩, hb5⟩; have t5 : Below w4.heap.size w4 w5 := bt (below_dr (Below.refl w4.heap.size w4)) hb5)
        | (go_at_call 42; (with_reducible refine (P5.out _ _ _ (Nat.le_trans hl t6.size) (Q4.out.below t6)).mono ?_); rintro e w5 ⟨⟨X5, y5, rfl, q5⟩, hb5⟩; have q6 := q6.below hb5; have t65 : Below w4.heap.size w4 w5 := bt t6 hb5)
        | (go_at_call 43; (with_reducible refine (HB.out _ (Nat.le_trans hl t5.size)).mono ?_); rintro e w6 ⟨⟨X6, y6, rfl, q6⟩, hb6⟩; have q5 := q5.below hb6; have t56 : Below w4.heap.size w4 w6 := bt t5 hb6)
        | (go_at_call 43; (with_reducible refine (HB.out _ hlD).mono ?_); rintro e w6 ⟨⟨X6, y6, rfl, q6⟩, hb6⟩; have t6 : Below w4.heap.size w4 w6 := bt (below_dr (Below.refl w4.heap.size w4)) hb6)
        | (refine step_app8 _ (by rfl) _ _ _ _ (by rfl) (w.heap.size + 1) 5 t8 (.slice X5 17 y5) (encN x.d) (by rfl) q5.2 _ (encL x.lab.data.toList) (by rfl) (q6.sl.src (P := Tryd.prog) Tryd.underlying26 y6) (by rw [HLL.out, HN17.out]; omega) (Nat.le_trans hl (by first | exact t56.size | exact t65.size)) ?_; intro v7 w7 q7 hg7 hat7; have t7 : Below (w.heap.size + 1) w0 w7 := Below.grown (by first | exact bm hb0 (by omega) t56 | exact bm hb0 (by omega) t65) hg7 (by first | exact Nat.le_trans hl t56.size | exact Nat.le_trans hl t65.size) (fun q hq => (World.ownsRow.lt q5.2 q hq).1))
        | (refine step_app8 _ (by rfl) _ _ _ _ (by rfl) (w.heap.size + 1) 5 t8 (.slice X5 17 y5) (encN x.d) (by rfl) q5.2 _ (encL x.lab.data.toList) (by rfl) (q6.sl.src (P := Tryd.prog) Tryd.underlying26 y6) (by rw [HLL.out, HN17.out]; omega) (Nat.le_trans hl (by first | exact t56.size | exact t65.size)) ?_; intro v7 w7 q7 hg7 hat7; have t7 : Below (w.heap.size + 1) w0 w7 := Below.grown (by first | exact bm hb0 (by omega) t56 | exact bm hb0 (by omega) t65) hg7 (by first | exact Nat.le_trans hl t56.size | exact Nat.le_trans hl t65.size) (fun q hq => (World.ownsRow.lt q5.2 q hq).1))
        | fail)
    all_goals (go_wp2_with fail; go_meet)
    all_goals exact own_hasB (by rw [upH_zero]; exact q7) t7
  case rest =>
    obtain ⟨w5, rfl⟩ : ∃ x, x = wc := ⟨wc, rfl⟩
    obtain ⟨X5, q5, z5, rfl, h5, hb5⟩ := hcut
    clear c0 c1 c2 c3 c4 c5 c6 F q4 hb0 hl P5 HB HF
    obtain ⟨c0, c1, c2, c3, c4, c5, c6⟩ := id (F0.keep hb5 (by omega))
    go_wp2_with fail
    go_loopw [3, 4] (fun v i w' => ∃ (k : Nat) (X : Option Addr) (q y : Nat), k ≤ x.hs.length ∧ i = .int .i64 k ∧ v = .slice X q y ∧ HasB w' (w.heap.size + 1) X q y (upH x.d k) ∧ Below (w.heap.size + 1) w0 w') (fun _ i _ => x.hs.length - (RowKit.intOf i).toNat)
    case atStart => exact ⟨0, X5, q5, z5, by omega, rfl, rfl, h5, hb5⟩
    case round =>
      obtain ⟨w6, rfl⟩ : ∃ x, x = wr := ⟨wr, rfl⟩
      obtain ⟨k, X6, q6, y6, hk, rfl, rfl, h6, hb6⟩ := hrel
      clear c0 c1 c2 c3 c4 c5 c6 h5 hb5
      obtain ⟨c0, c1, c2, c3, c4, c5, c6⟩ := id (F0.keep hb6 (by omega))
      by_cases hlt : k < x.hs.length
      · obtain ⟨b1, off, u, hHA, hbb, r0, r1, r2, m1, hu, -, e1⟩ := home_at (HXI.out.below (hb6.mono (by omega))).hh (HXI.out.below (hb6.mono (by omega))).hi hlt
        have hok := H6.out u.d (List.mem_map_of_mem hu)
        obtain ⟨k1, k2, k3, k4⟩ := hok
        have hnx : 0 ≤ u.nx ∧ u.nx ≤ 7 := by have h1 : d + 1 ≤ u.nx ∧ u.nx ≤ d + 1 + s := k2; omega
        have hrt : 0 ≤ u.rt ∧ u.rt ≤ 4294967295 := k3
        have hun := upH_next (a := x.d) e1
        have hmid : ∀ t, (upH x.d k ++ (u.ps.take t).flatMap (fun p => le 1 p.toNat)).length ≤ 200 := fun t => by
          have h1 := HUP.out (k + 1)
          rw [hun, encH_cut u.d t] at h1
          rw [List.length_append] at h1 ⊢
          rw [List.length_append] at h1
          exact Nat.le_trans (Nat.add_le_add_left (Nat.le_add_right _ _) _) h1
        have hps : ∀ (t : Nat) (ht : t < u.ps.length), 0 ≤ u.ps[t] ∧ u.ps[t] < 256 := fun t ht => by
          have h1 : 0 ≤ u.ps[t] ∧ u.ps[t] ≤ u.nx - 1 := (k4 t ht).1
          omega
        have hpn : u.ps.length ≤ 5 := by have h1 : (u.ps.length : Int) = d + 1 := k1; omega
        have i1 : (k : Int) < (x.hs.length : Int) := by omega
        have i2 : (0 : Int) ≤ (k : Int) := by omega
        have HUN := Lib.hid hun
        have HMID := Lib.hid hmid
        have HPS := Lib.hid hps
        have HM1 := Lib.hid (show SlV w6 w.heap.size u.A (ints u.ps) from m1.1)
        have HR := Lib.hid (show ∀ W, Below (w.heap.size + 1) w6 W → W.cell? ⟨b1, off + k * 3, none⟩ = some (.slice u.A u.ps.length u.c) ∧ W.cell? ⟨b1, off + k * 3 + 1, none⟩ = some (.int .i64 u.nx) ∧ W.cell? ⟨b1, off + k * 3 + 2, none⟩ = some (.int .i64 u.rt) from fun W h => ⟨ks h (by omega) r0, ks h (by omega) r1, ks h (by omega) r2⟩)
        rw [hHA] at c6
        have HC6 := Lib.hid (show ∀ W, Below (w.heap.size + 1) w6 W → W.cell? ⟨w.heap.size, 6, none⟩ = some (.slice (some ⟨b1, off, none⟩) x.hs.length x.hc) from fun W h => ks h (by omega) c6)
        clear hmid hps hun e1 k1 k2 k3 k4 m1 hu r1 r2
        have hz6 := hb6.size
        go_wp2_with fail
        go_loopw [3, 5] (fun v i w' => ∃ (t : Nat) (X : Option Addr) (q y : Nat), t ≤ u.ps.length ∧ i = .int .i64 t ∧ v = .slice X q y ∧ HasB w' (w.heap.size + 1) X q y (upH x.d k ++ (u.ps.take t).flatMap (fun p => le 1 p.toNat)) ∧ Below (w.heap.size + 1) w6 w') (fun _ i _ => u.ps.length - (RowKit.intOf i).toNat)
        case atStart => exact ⟨0, X6, q6, y6, by omega, rfl, rfl, by simpa using h6, Below.refl _ _⟩
        case round =>
          obtain ⟨w7, rfl⟩ : ∃ x, x = wr := ⟨wr, rfl⟩
          obtain ⟨t, X7, q7, y7, ht, rfl, rfl, h7, hb7⟩ := hrel
          have hz7 := hb7.size
          have hq7 : q7 ≤ 200 := by rw [← h7.1]; exact HMID.out t
          clear c6 r0
          obtain ⟨r0, r1, r2⟩ := HR.out _ hb7
          have c6 := HC6.out _ hb7
          by_cases htl : t < u.ps.length
          · have i3 : (t : Int) < (u.ps.length : Int) := by omega
            have i4 : (0 : Int) ≤ (t : Int) := by omega
            obtain ⟨bp, op, hA2, hbp, hcp⟩ := (HM1.out.below (hb7.mono (Nat.le_succ _))) (by rw [ints_length]; omega)
            have e0 := hcp t (by rw [ints_length]; exact htl)
            rw [ints_get] at e0
            rw [hA2] at r0
            have PQ := Lib.hid (putH 1 q7 (q7 + 1) (w.heap.size + 1) 1 u.ps[t] X7 y7 _ _ w7 rfl (by omega) (HPS.out t htl).1 (by have := (HPS.out t htl).2; omega) rfl (by omega) (by omega) h7 rfl)
            have HT := Lib.hid (show upH x.d k ++ (u.ps.take (t + 1)).flatMap (fun p => le 1 p.toNat) = upH x.d k ++ (u.ps.take t).flatMap (fun p => le 1 p.toNat) ++ le 1 u.ps[t].toNat from by
              rw [List.take_succ_eq_append_getElem htl, List.flatMap_append, List.append_assoc]
              simp)
            clear hcp hA2 r1 r2 hHA
            go_wp2_with (go_at_call 42; (with_reducible refine PQ.out.mono ?_); rintro e w8 ⟨⟨X8, y8, rfl, q8⟩, hb8⟩)
            go_roundw
            case rel => exact ⟨t + 1, X8, q7 + 1, y8, by omega, by go_num, rfl, by rw [HT.out]; exact q8, bm hb7 (by omega) hb8⟩
            case measure => simp [RowKit.intOf]; omega
          · have i3 : ¬ (t : Int) < (u.ps.length : Int) := by omega
            have hlist : upH x.d k ++ (u.ps.take t).flatMap (fun p => le 1 p.toNat) = upH x.d k ++ u.ps.flatMap (fun p => le 1 p.toNat) := by rw [List.take_of_length_le (by omega)]
            rw [hlist] at h7
            have H7 := Lib.hid h7
            have PA := Lib.hid (fun (W : World) (hW : w.heap.size + 1 ≤ W.heap.size) (h : HasB W (w.heap.size + 1) X7 q7 y7 (upH x.d k ++ u.ps.flatMap (fun p => le 1 p.toNat))) => putH 1 q7 (q7 + 1) (w.heap.size + 1) 1 u.nx X7 y7 _ _ W rfl (by omega) hnx.1 (by omega) rfl (by omega) hW h rfl)
            have PB := Lib.hid (fun (W : World) (X : Option Addr) (y : Nat) (hW : w.heap.size + 1 ≤ W.heap.size) (h : HasB W (w.heap.size + 1) X (q7 + 1) y (upH x.d k ++ u.ps.flatMap (fun p => le 1 p.toNat) ++ le 1 u.nx.toNat)) => putH 4 (q7 + 1) (q7 + 5) (w.heap.size + 1) 4 u.rt X y _ (upH x.d (k + 1)) W rfl (by omega) hrt.1 (by omega) rfl (by omega) hW h (by rw [HUN.out]; unfold encH; simp only [List.append_assoc]; rfl))
            have HS := Lib.hid (show ∀ W, Below (w.heap.size + 1) w6 W → W.cell? ⟨w.heap.size, 6, none⟩ = some (.slice (some ⟨b1, off, none⟩) x.hs.length x.hc) ∧ W.cell? ⟨b1, off + k * 3 + 1, none⟩ = some (.int .i64 u.nx) ∧ W.cell? ⟨b1, off + k * 3 + 2, none⟩ = some (.int .i64 u.rt) ∧ Below (w.heap.size + 1) w6 W from fun W h => ⟨HC6.out W h, (HR.out W h).2.1, (HR.out W h).2.2, h⟩)
            have hlD : w.heap.size + 1 ≤ w7.drew.heap.size := by show _ ≤ w7.heap.size; omega
            have hl7 : w.heap.size + 1 ≤ w6.heap.size := by omega
            clear h7 hlist HC6 HR HPS HMID hHA h6
            go_wp2_with fail
            go_region_held3 (fun W => W.cell? ⟨w.heap.size, 6, none⟩ = some (.slice (some ⟨b1, off, none⟩) x.hs.length x.hc) ∧ W.cell? ⟨b1, off + k * 3 + 1, none⟩ = some (.int .i64 u.nx) ∧ W.cell? ⟨b1, off + k * 3 + 2, none⟩ = some (.int .i64 u.rt) ∧ Below (w.heap.size + 1) w6 W)
              ((first
                | exact HS.out _ (bm (bm hb7 hl7 (bt (below_dr (Below.refl w7.heap.size w7)) hb8)) hl7 hb9)
                | exact HS.out _ (bm hb7 hl7 (bt (below_dr (Below.refl w7.heap.size w7)) hb8))
                | exact HS.out _ (below_dr hb7)
                | fail))
              (first
                | (go_at_call 42; (with_reducible refine (PA.out _ hlD (H7.out.below (below_dr (Below.refl _ _)))).mono ?_); rintro e w8 ⟨⟨X8, y8, rfl, q8⟩, hb8⟩; have hl8 := Nat.le_trans hlD hb8.size)
                | (go_at_call 42; (with_reducible refine (PB.out _ _ _ hl8 q8).mono ?_); rintro e w9 ⟨⟨X9, y9, rfl, q9⟩, hb9⟩)
                | fail)
            have hb79 : Below (w.heap.size + 1) w6 w9 := bm (bm hb7 hl7 (bt (below_dr (Below.refl w7.heap.size w7)) hb8)) hl7 hb9
            have hbR := hb6.trans hb79
            have Q9 := Lib.hid q9
            clear q9 q8 hb79 hb8 hb9
            go_wp2_with fail
            go_roundw
            case rel => exact ⟨k + 1, X9, q7 + 5, y9, by omega, by go_num, rfl, Q9.out, hbR⟩
            case measure => simp [RowKit.intOf]; omega
      · have i1 : ¬ (k : Int) < (x.hs.length : Int) := by omega
        have he := upH_all x.d k (by have e : x.d.hs.length = x.hs.length := hds_length x.hs; omega)
        rw [he] at h6
        clear he
        go_wp2_with fail
        go_ret
        exact ⟨⟨_, rfl, h6.2.less (by omega)⟩, hbw.trans (hb6.mono (by omega))⟩
end Go.Proofs.YtdjleimndolonaaDoor.anc

namespace Go.Proofs.YtdjleimndolonaaDoor.anc
open Go.RowKit Go.Lib
open Go.Proofs.YtdjleimndolonaaDoor.gmt (Ok five_new)
open Go.Proofs.YtdjleimndolonaaDoor.pck (num ref_get)
open Go.Proofs.YtdjleimndolonaaDoor.lbl (encL readL labE lab_len RefAns refread_short refread_any)

/-- The document's label at the beginning of bytes: there is one, or none. -/
theorem rlab_some (A : Option Addr) (c m : Nat) (L t : List UInt8) (w : World) (hA : Sl w w.heap.size A L) (hL : L.length = m) (hm : m ≤ c) (hmax : c ≤ maxLen) (h : readL L = some t) :
    Calls Tryd.prog 62 #[.slice A m c] w fun e w' => e = .returned (.tuple #[.string ⟨t.toArray⟩, .int .i64 (1 + (t.length : Int))]) ∧ Below w.heap.size w w' := by
  subst hL
  cases L with
  | nil => cases h
  | cons n r =>
    unfold readL at h
    simp only at h
    split at h
    · cases h
    · split at h
      · rename_i h1 h2
        obtain rfl := Option.some.inj h
        refine (refread_any A c _ n r w hA hm hmax (by omega)).mono ?_
        rintro e w' ⟨S, hS, he, hb⟩
        refine ⟨?_, hb⟩
        rw [he, if_pos h2, ← hS, size_list]
      · cases h
theorem rlab_none (A : Option Addr) (c m : Nat) (L : List UInt8) (w : World) (hA : Sl w w.heap.size A L) (hL : L.length = m) (h0 : 0 < m) (hm : m ≤ c) (hmax : c ≤ maxLen) (h : readL L = none) :
    Calls Tryd.prog 62 #[.slice A m c] w fun e w' => e = .returned (.tuple #[.string ⟨#[]⟩, .int .i64 0]) ∧ Below w.heap.size w w' := by
  subst hL
  cases L with
  | nil => simp at h0
  | cons n r =>
    unfold readL at h
    simp only at h
    split at h
    · rename_i h1
      exact refread_short A c _ n r w hA h1
    · split at h
      · cases h
      · rename_i h1 h2
        refine (refread_any A c _ n r w hA hm hmax (by omega)).mono ?_
        rintro e w' ⟨S, hS, he, hb⟩
        exact ⟨by rw [he, if_neg h2], hb⟩
/-- What the document's reading answers: an anchor of one's own, or none. -/
def RdQ (base : Nat) (x : Anc) (g : Bool) (e : Ending) (w' : World) : Prop := ∃ y : AV, e = .returned (.tuple #[y.v, .bool g]) ∧ y.d = x ∧ y.Own w' base
theorem below7 {B g : Nat} {a W : World} {v0 v1 v2 v3 v4 v5 v6 : Value} (h : Below B a W) (hg : B ≤ g) : Below B a (((((((W.setCell ⟨g, 0, none⟩ v0).setCell ⟨g, 1, none⟩ v1).setCell ⟨g, 2, none⟩ v2).setCell ⟨g, 3, none⟩ v3).setCell ⟨g, 4, none⟩ v4).setCell ⟨g, 5, none⟩ v5).setCell ⟨g, 6, none⟩ v6) := (((((((h.setCell (p := ⟨g, 0, none⟩) hg v0).setCell (p := ⟨g, 1, none⟩) hg v1).setCell (p := ⟨g, 2, none⟩) hg v2).setCell (p := ⟨g, 3, none⟩) hg v3).setCell (p := ⟨g, 4, none⟩) hg v4).setCell (p := ⟨g, 5, none⟩) hg v5).setCell (p := ⟨g, 6, none⟩) hg v6)
set_option maxRecDepth 100000 in
set_option maxHeartbeats 8000000 in
theorem rread_short (Z D s l a : Int) (A : Option Addr) (c n : Nat) (w : World) (hn : n < 18) :
    Calls Tryd.prog 37 #[.agg #[.int .i64 Z, .int .i64 D, .int .i64 s, .int .i64 l, .int .i64 a], .slice A n c] w fun e w' => RdQ w.heap.size noAnc false e w' ∧ Below w.heap.size w w' := by
  have i1 : (n : Int) < 18 := by omega
  have GG := (g5_new w Z D s l a).keep (bl (w.alloc (.cells #[.int .i64 Z, .int .i64 D, .int .i64 s, .int .i64 l, .int .i64 a] 23)) (.cells #[.int .i64 0, .int .i64 0, .int .i64 0, .int .i64 0, .int .i64 0, .string ⟨#[]⟩, .slice none 0 0] 31)) (by simp)
  have PZ := sev_new (w.alloc (.cells #[.int .i64 Z, .int .i64 D, .int .i64 s, .int .i64 l, .int .i64 a] 23)) (.int .i64 0) (.int .i64 0) (.int .i64 0) (.int .i64 0) (.int .i64 0) (.string ⟨#[]⟩) (.slice none 0 0) 31
  rw [show (w.alloc (.cells #[.int .i64 Z, .int .i64 D, .int .i64 s, .int .i64 l, .int .i64 a] 23)).heap.size = w.heap.size + 1 by simp] at PZ
  have hb0 := kal (bl w (.cells #[.int .i64 Z, .int .i64 D, .int .i64 s, .int .i64 l, .int .i64 a] 23)) (.cells #[.int .i64 0, .int .i64 0, .int .i64 0, .int .i64 0, .int .i64 0, .string ⟨#[]⟩, .slice none 0 0] 31)
  have l1 : w.heap.size + 1 < ((w.alloc (.cells #[.int .i64 Z, .int .i64 D, .int .i64 s, .int .i64 l, .int .i64 a] 23)).alloc (.cells #[.int .i64 0, .int .i64 0, .int .i64 0, .int .i64 0, .int .i64 0, .string ⟨#[]⟩, .slice none 0 0] 31)).heap.size := by simp
  go_enter Tryd.func37, Tryd.ntmps37
  go_upto_region 1 with fail
  generalize (w.alloc (.cells #[.int .i64 Z, .int .i64 D, .int .i64 s, .int .i64 l, .int .i64 a] 23)).alloc (.cells #[.int .i64 0, .int .i64 0, .int .i64 0, .int .i64 0, .int .i64 0, .string ⟨#[]⟩, .slice none 0 0] 31) = w0 at *
  obtain ⟨z0, z1, z2, z3, z4, z5, z6, f0, f1, f2, f3, f4, f5, f6⟩ := id PZ
  go_wp2_with fail
  have k7 := (((((((PZ.set0 (.int .i64 0)).set1 (.int .i64 0)).set2 (.int .i64 0)).set3 (.int .i64 0)).set4 (.int .i64 0)).set5 (.string ⟨#[]⟩)).set6 (.slice none 0 0))
  exact bodyPost_ret (v := .tuple #[.agg #[.int .i64 0, .int .i64 0, .int .i64 0, .int .i64 0, .int .i64 0, .string ⟨#[]⟩, .slice none 0 0], .bool false]) (by simp [results, Tryd.results37, go_sem, k7.c0, k7.c1, k7.c2, k7.c3, k7.c4, k7.c5, k7.c6]) rfl ⟨⟨noAV, rfl, rfl, noAV_own _ _⟩, below7 hb0 (by omega)⟩
set_option maxRecDepth 100000 in
set_option maxHeartbeats 8000000 in
theorem rread_lab (Z D s l a : Int) (A : Option Addr) (c n : Nat) (b : List UInt8) (w : World) (hn : b.length = n) (h18 : 18 ≤ n) (hA : Sl w w.heap.size A b) (hm : n ≤ c) (hmax : c ≤ maxLen) (h : readL (b.drop 17) = none) :
    Calls Tryd.prog 37 #[.agg #[.int .i64 Z, .int .i64 D, .int .i64 s, .int .i64 l, .int .i64 a], .slice A n c] w fun e w' => RdQ w.heap.size noAnc false e w' ∧ Below w.heap.size w w' := by
  obtain ⟨bb, off, rfl, hbb, hcb⟩ := id (hA (by omega))
  have hb16 := hcb 16 (by omega)
  unfold by8 at hb16
  have hx16 := b[16].toNat_lt
  have HSL := Lib.hid (show ∀ (k : Nat) (W : World), Below w.heap.size w W → Sl W w.heap.size (some ⟨bb, off + k, none⟩) (b.drop k) from fun k W h => (hA.below h).drop k)
  have cg : ∀ (k : Nat), k ≤ 12 → ∀ W, Below w.heap.size w W → Calls Tryd.prog 61 #[.slice (some ⟨bb, off + k, none⟩) (n - k) (c - k), .int .i64 4] W fun e w' => e = .returned (.int .i64 (num ((b.drop k).take 4))) ∧ W = w' := fun k hk W hW =>
    ref_get 4 (n - k) _ (c - k) _ (b.drop k) W (by omega) (by rw [List.length_drop, hn]) (by omega) (HSL.out k W hW)
  have d0 := cg 0 (by omega)
  have d4 := cg 4 (by omega)
  have d8 := cg 8 (by omega)
  have d12 := cg 12 (by omega)
  simp only [Nat.sub_zero, Nat.add_zero, List.drop_zero] at d0
  have D0 := Lib.hid d0
  have D4 := Lib.hid d4
  have D8 := Lib.hid d8
  have D12 := Lib.hid d12
  clear cg d0 d4 d8 d12 hcb
  unfold maxLen at hmax
  have i1 : ¬ (n : Int) < 18 := by omega
  have i2 : (4 : Int) ≤ (n : Int) := by omega
  have i3 : (8 : Int) ≤ (n : Int) := by omega
  have i4 : (12 : Int) ≤ (n : Int) := by omega
  have i5 : (16 : Int) < (n : Int) := by omega
  have j2 : (4 : Int) ≤ (c : Int) := by omega
  have j3 : (8 : Int) ≤ (c : Int) := by omega
  have j4 : (12 : Int) ≤ (c : Int) := by omega
  have j5 : ¬ c = 4 := by omega
  have j6 : ¬ c = 8 := by omega
  have j7 : ¬ c = 12 := by omega
  have GG := (g5_new w Z D s l a).keep (bl (w.alloc (.cells #[.int .i64 Z, .int .i64 D, .int .i64 s, .int .i64 l, .int .i64 a] 23)) (.cells #[.int .i64 0, .int .i64 0, .int .i64 0, .int .i64 0, .int .i64 0, .string ⟨#[]⟩, .slice none 0 0] 31)) (by simp)
  have PZ := sev_new (w.alloc (.cells #[.int .i64 Z, .int .i64 D, .int .i64 s, .int .i64 l, .int .i64 a] 23)) (.int .i64 0) (.int .i64 0) (.int .i64 0) (.int .i64 0) (.int .i64 0) (.string ⟨#[]⟩) (.slice none 0 0) 31
  rw [show (w.alloc (.cells #[.int .i64 Z, .int .i64 D, .int .i64 s, .int .i64 l, .int .i64 a] 23)).heap.size = w.heap.size + 1 by simp] at PZ
  have hb0 := kal (bl w (.cells #[.int .i64 Z, .int .i64 D, .int .i64 s, .int .i64 l, .int .i64 a] 23)) (.cells #[.int .i64 0, .int .i64 0, .int .i64 0, .int .i64 0, .int .i64 0, .string ⟨#[]⟩, .slice none 0 0] 31)
  have l1 : w.heap.size + 1 < ((w.alloc (.cells #[.int .i64 Z, .int .i64 D, .int .i64 s, .int .i64 l, .int .i64 a] 23)).alloc (.cells #[.int .i64 0, .int .i64 0, .int .i64 0, .int .i64 0, .int .i64 0, .string ⟨#[]⟩, .slice none 0 0] 31)).heap.size := by simp
  go_enter Tryd.func37, Tryd.ntmps37
  go_upto_region 1 with fail
  generalize (w.alloc (.cells #[.int .i64 Z, .int .i64 D, .int .i64 s, .int .i64 l, .int .i64 a] 23)).alloc (.cells #[.int .i64 0, .int .i64 0, .int .i64 0, .int .i64 0, .int .i64 0, .string ⟨#[]⟩, .slice none 0 0] 31) = w0 at *
  go_upto_region 3 with fail
  go_cut [6] from 17 to 33 (fun v wx => v = .pointer (some ⟨w0.heap.size, 0, none⟩) ∧ Sev wx w0.heap.size (.int .i64 (num (b.take 4))) (.int .i64 (num ((b.drop 4).take 4))) (.int .i64 (b[16].toNat : Int)) (.int .i64 (num ((b.drop 8).take 4))) (.int .i64 (num ((b.drop 12).take 4))) (.string ⟨#[]⟩) (.slice none 0 0) ∧ Below w0.heap.size w0 wx ∧ w0.heap.size < wx.heap.size)
  case first =>
      have hc16 := kst hb0 hbb hb16
      have lb : bb < w0.heap.size := Nat.lt_trans hbb (Nat.lt_of_succ_lt l1)
      have HF := Lib.hid (show ∀ W, Below w0.heap.size w0 W → W.cell? ⟨bb, off + 16, none⟩ = some (.int .u8 (b[16].toNat : Int)) ∧ Below w0.heap.size w0 W from fun W h => ⟨kst h lb hc16, h⟩)
      have wb : IntKind.i64.wrap (b[16].toNat : Int) = (b[16].toNat : Int) := IntWalk.i64_in _ (by omega)
      have PN := (sev_new w0 (.int .i64 0) (.int .i64 0) (.int .i64 0) (.int .i64 0) (.int .i64 0) (.string ⟨#[]⟩) (.slice none 0 0) 31).keep (B := w0.heap.size + 1) (below_dr (Below.refl _ _)) (by omega)
      obtain ⟨y0, y1, y2, y3, y4, y5, y6, k0, k1, k2, k3, k4, k5, k6⟩ := id PN
      go_region_held3 (fun W => W.cell? ⟨bb, off + 16, none⟩ = some (.int .u8 (b[16].toNat : Int)) ∧ Below w0.heap.size w0 W)
        ((refine HF.out _ ?_; first
          | with_reducible exact kal (below_dr (Below.refl _ _)) _
          | with_reducible exact below_dr (bl w0 _)
          | with_reducible exact bl w0 _
          | with_reducible exact below_dr (Below.refl _ _)
          | with_reducible exact Below.refl _ _
          | fail))
        (first
          | (go_at_call 61; (with_reducible refine (D0.out _ (bt hb0 (below_dr (Below.refl _ _)))).mono ?_); rintro e wq ⟨rfl, rfl⟩)
          | (go_at_call 61; (with_reducible refine (D0.out _ (bt hb0 (below_dr (bl w0 _)))).mono ?_); rintro e wq ⟨rfl, rfl⟩)
          | (go_at_call 61; (with_reducible refine (D4.out _ (bt hb0 (below_dr (Below.refl _ _)))).mono ?_); rintro e wq ⟨rfl, rfl⟩)
          | (go_at_call 61; (with_reducible refine (D4.out _ (bt hb0 (below_dr (bl w0 _)))).mono ?_); rintro e wq ⟨rfl, rfl⟩)
          | (go_at_call 61; (with_reducible refine (D8.out _ (bt hb0 (below_dr (Below.refl _ _)))).mono ?_); rintro e wq ⟨rfl, rfl⟩)
          | (go_at_call 61; (with_reducible refine (D8.out _ (bt hb0 (below_dr (bl w0 _)))).mono ?_); rintro e wq ⟨rfl, rfl⟩)
          | (go_at_call 61; (with_reducible refine (D12.out _ (bt hb0 (below_dr (Below.refl _ _)))).mono ?_); rintro e wq ⟨rfl, rfl⟩)
          | (go_at_call 61; (with_reducible refine (D12.out _ (bt hb0 (below_dr (bl w0 _)))).mono ?_); rintro e wq ⟨rfl, rfl⟩)
          | fail)
      all_goals (go_wp2_with fail; go_meet)
      all_goals exact ⟨rfl, (sev_new w0 _ _ _ _ _ _ _ _).keep (B := w0.heap.size + 1) (below_dr (Below.refl _ _)) (by omega), below_dr (bl w0 _), by simp⟩
  case rest =>
    obtain ⟨w2, rfl⟩ : ∃ x, x = wc := ⟨wc, rfl⟩
    obtain ⟨rfl, SN, hb2, l2⟩ := hcut
    have hb02 := bt hb0 hb2
    have GG2 := GG.keep hb2 (by omega)
    have PZ2 := PZ.keep hb2 l1
    clear GG PZ D0 D4 D8 D12
    have HRL := Lib.hid (rlab_none (some ⟨bb, off + 17, none⟩) (c - 17) (n - 17) (b.drop 17) w2 ((HSL.out 17 _ hb02).more hb02.size) (by rw [List.length_drop, hn]) (by omega) (by omega) (by unfold maxLen; omega) h)
    obtain ⟨z0, z1, z2, z3, z4, z5, z6, f0, f1, f2, f3, f4, f5, f6⟩ := id PZ2
    have r1 : (17 : Int) ≤ (n : Int) := by omega
    have r2 : (17 : Int) ≤ (c : Int) := by omega
    have r3 : ¬ c = 17 := by omega
    clear h i2 i3 i4 i5 j2 j3 j4 j5 j6 j7
    go_wp2_with (go_at_call 62; (with_reducible refine HRL.out.mono ?_); rintro e w3 ⟨rfl, hb3⟩; replace PZ2 := PZ2.keep hb3 (by omega); clear z0 z1 z2 z3 z4 z5 z6 f0 f1 f2 f3 f4 f5 f6; obtain ⟨z0, z1, z2, z3, z4, z5, z6, f0, f1, f2, f3, f4, f5, f6⟩ := id PZ2)
    have k7 := (((((((PZ2.set0 (.int .i64 0)).set1 (.int .i64 0)).set2 (.int .i64 0)).set3 (.int .i64 0)).set4 (.int .i64 0)).set5 (.string ⟨#[]⟩)).set6 (.slice none 0 0))
    exact bodyPost_ret (v := .tuple #[.agg #[.int .i64 0, .int .i64 0, .int .i64 0, .int .i64 0, .int .i64 0, .string ⟨#[]⟩, .slice none 0 0], .bool false]) (by simp [results, Tryd.results37, go_sem, k7.c0, k7.c1, k7.c2, k7.c3, k7.c4, k7.c5, k7.c6]) rfl ⟨⟨noAV, rfl, rfl, noAV_own _ _⟩, below7 (bt hb02 hb3) (by omega)⟩
set_option maxRecDepth 100000 in
set_option maxHeartbeats 8000000 in
theorem rread_len (Z D : Nat) (s l a : Int) (A : Option Addr) (c n : Nat) (b : List UInt8) (w : World) (hn : b.length = n) (h18 : 18 ≤ n) (hA : Sl w w.heap.size A b) (hm : n ≤ c) (hmax : c ≤ maxLen) (t : List UInt8) (h : readL (b.drop 17) = some t) (ho : Ok Z D s l a) (hl : (b.drop (18 + t.length)).length ≠ Z * (D + 6)) :
    Calls Tryd.prog 37 #[.agg #[.int .i64 Z, .int .i64 D, .int .i64 s, .int .i64 l, .int .i64 a], .slice A n c] w fun e w' => RdQ w.heap.size noAnc false e w' ∧ Below w.heap.size w w' := by
  obtain ⟨bb, off, rfl, hbb, hcb⟩ := id (hA (by omega))
  have hb16 := hcb 16 (by omega)
  unfold by8 at hb16
  have hx16 := b[16].toNat_lt
  have HSL := Lib.hid (show ∀ (k : Nat) (W : World), Below w.heap.size w W → Sl W w.heap.size (some ⟨bb, off + k, none⟩) (b.drop k) from fun k W h => (hA.below h).drop k)
  have cg : ∀ (k : Nat), k ≤ 12 → ∀ W, Below w.heap.size w W → Calls Tryd.prog 61 #[.slice (some ⟨bb, off + k, none⟩) (n - k) (c - k), .int .i64 4] W fun e w' => e = .returned (.int .i64 (num ((b.drop k).take 4))) ∧ W = w' := fun k hk W hW =>
    ref_get 4 (n - k) _ (c - k) _ (b.drop k) W (by omega) (by rw [List.length_drop, hn]) (by omega) (HSL.out k W hW)
  have d0 := cg 0 (by omega)
  have d4 := cg 4 (by omega)
  have d8 := cg 8 (by omega)
  have d12 := cg 12 (by omega)
  simp only [Nat.sub_zero, Nat.add_zero, List.drop_zero] at d0
  have D0 := Lib.hid d0
  have D4 := Lib.hid d4
  have D8 := Lib.hid d8
  have D12 := Lib.hid d12
  clear cg d0 d4 d8 d12 hcb
  unfold maxLen at hmax
  have i1 : ¬ (n : Int) < 18 := by omega
  have i2 : (4 : Int) ≤ (n : Int) := by omega
  have i3 : (8 : Int) ≤ (n : Int) := by omega
  have i4 : (12 : Int) ≤ (n : Int) := by omega
  have i5 : (16 : Int) < (n : Int) := by omega
  have j2 : (4 : Int) ≤ (c : Int) := by omega
  have j3 : (8 : Int) ≤ (c : Int) := by omega
  have j4 : (12 : Int) ≤ (c : Int) := by omega
  have j5 : ¬ c = 4 := by omega
  have j6 : ¬ c = 8 := by omega
  have j7 : ¬ c = 12 := by omega
  have GG := (g5_new w Z D s l a).keep (bl (w.alloc (.cells #[.int .i64 Z, .int .i64 D, .int .i64 s, .int .i64 l, .int .i64 a] 23)) (.cells #[.int .i64 0, .int .i64 0, .int .i64 0, .int .i64 0, .int .i64 0, .string ⟨#[]⟩, .slice none 0 0] 31)) (by simp)
  have PZ := sev_new (w.alloc (.cells #[.int .i64 Z, .int .i64 D, .int .i64 s, .int .i64 l, .int .i64 a] 23)) (.int .i64 0) (.int .i64 0) (.int .i64 0) (.int .i64 0) (.int .i64 0) (.string ⟨#[]⟩) (.slice none 0 0) 31
  rw [show (w.alloc (.cells #[.int .i64 Z, .int .i64 D, .int .i64 s, .int .i64 l, .int .i64 a] 23)).heap.size = w.heap.size + 1 by simp] at PZ
  have hb0 := kal (bl w (.cells #[.int .i64 Z, .int .i64 D, .int .i64 s, .int .i64 l, .int .i64 a] 23)) (.cells #[.int .i64 0, .int .i64 0, .int .i64 0, .int .i64 0, .int .i64 0, .string ⟨#[]⟩, .slice none 0 0] 31)
  have l1 : w.heap.size + 1 < ((w.alloc (.cells #[.int .i64 Z, .int .i64 D, .int .i64 s, .int .i64 l, .int .i64 a] 23)).alloc (.cells #[.int .i64 0, .int .i64 0, .int .i64 0, .int .i64 0, .int .i64 0, .string ⟨#[]⟩, .slice none 0 0] 31)).heap.size := by simp
  go_enter Tryd.func37, Tryd.ntmps37
  go_upto_region 1 with fail
  generalize (w.alloc (.cells #[.int .i64 Z, .int .i64 D, .int .i64 s, .int .i64 l, .int .i64 a] 23)).alloc (.cells #[.int .i64 0, .int .i64 0, .int .i64 0, .int .i64 0, .int .i64 0, .string ⟨#[]⟩, .slice none 0 0] 31) = w0 at *
  go_upto_region 3 with fail
  go_cut [6] from 17 to 33 (fun v wx => v = .pointer (some ⟨w0.heap.size, 0, none⟩) ∧ Sev wx w0.heap.size (.int .i64 (num (b.take 4))) (.int .i64 (num ((b.drop 4).take 4))) (.int .i64 (b[16].toNat : Int)) (.int .i64 (num ((b.drop 8).take 4))) (.int .i64 (num ((b.drop 12).take 4))) (.string ⟨#[]⟩) (.slice none 0 0) ∧ Below w0.heap.size w0 wx ∧ w0.heap.size < wx.heap.size)
  case first =>
      have hc16 := kst hb0 hbb hb16
      have lb : bb < w0.heap.size := Nat.lt_trans hbb (Nat.lt_of_succ_lt l1)
      have HF := Lib.hid (show ∀ W, Below w0.heap.size w0 W → W.cell? ⟨bb, off + 16, none⟩ = some (.int .u8 (b[16].toNat : Int)) ∧ Below w0.heap.size w0 W from fun W h => ⟨kst h lb hc16, h⟩)
      have wb : IntKind.i64.wrap (b[16].toNat : Int) = (b[16].toNat : Int) := IntWalk.i64_in _ (by omega)
      have PN := (sev_new w0 (.int .i64 0) (.int .i64 0) (.int .i64 0) (.int .i64 0) (.int .i64 0) (.string ⟨#[]⟩) (.slice none 0 0) 31).keep (B := w0.heap.size + 1) (below_dr (Below.refl _ _)) (by omega)
      obtain ⟨y0, y1, y2, y3, y4, y5, y6, k0, k1, k2, k3, k4, k5, k6⟩ := id PN
      go_region_held3 (fun W => W.cell? ⟨bb, off + 16, none⟩ = some (.int .u8 (b[16].toNat : Int)) ∧ Below w0.heap.size w0 W)
        ((refine HF.out _ ?_; first
          | with_reducible exact kal (below_dr (Below.refl _ _)) _
          | with_reducible exact below_dr (bl w0 _)
          | with_reducible exact bl w0 _
          | with_reducible exact below_dr (Below.refl _ _)
          | with_reducible exact Below.refl _ _
          | fail))
        (first
          | (go_at_call 61; (with_reducible refine (D0.out _ (bt hb0 (below_dr (Below.refl _ _)))).mono ?_); rintro e wq ⟨rfl, rfl⟩)
          | (go_at_call 61; (with_reducible refine (D0.out _ (bt hb0 (below_dr (bl w0 _)))).mono ?_); rintro e wq ⟨rfl, rfl⟩)
          | (go_at_call 61; (with_reducible refine (D4.out _ (bt hb0 (below_dr (Below.refl _ _)))).mono ?_); rintro e wq ⟨rfl, rfl⟩)
          | (go_at_call 61; (with_reducible refine (D4.out _ (bt hb0 (below_dr (bl w0 _)))).mono ?_); rintro e wq ⟨rfl, rfl⟩)
          | (go_at_call 61; (with_reducible refine (D8.out _ (bt hb0 (below_dr (Below.refl _ _)))).mono ?_); rintro e wq ⟨rfl, rfl⟩)
          | (go_at_call 61; (with_reducible refine (D8.out _ (bt hb0 (below_dr (bl w0 _)))).mono ?_); rintro e wq ⟨rfl, rfl⟩)
          | (go_at_call 61; (with_reducible refine (D12.out _ (bt hb0 (below_dr (Below.refl _ _)))).mono ?_); rintro e wq ⟨rfl, rfl⟩)
          | (go_at_call 61; (with_reducible refine (D12.out _ (bt hb0 (below_dr (bl w0 _)))).mono ?_); rintro e wq ⟨rfl, rfl⟩)
          | fail)
      all_goals (go_wp2_with fail; go_meet)
      all_goals exact ⟨rfl, (sev_new w0 _ _ _ _ _ _ _ _).keep (B := w0.heap.size + 1) (below_dr (Below.refl _ _)) (by omega), below_dr (bl w0 _), by simp⟩
  case rest =>
    obtain ⟨w2, rfl⟩ : ∃ x, x = wc := ⟨wc, rfl⟩
    obtain ⟨rfl, SN, hb2, l2⟩ := hcut
    have hb02 := bt hb0 hb2
    have GG2 := GG.keep hb2 (by omega)
    have PZ2 := PZ.keep hb2 l1
    clear GG PZ D0 D4 D8 D12
    have hsd := readL_sound h
    have htl : t.length + 18 ≤ n := by have h1 := hsd.2.2; rw [List.length_drop, hn] at h1; omega
    have HRL := Lib.hid (rlab_some (some ⟨bb, off + 17, none⟩) (c - 17) (n - 17) (b.drop 17) t w2 ((HSL.out 17 _ hb02).more hb02.size) (by rw [List.length_drop, hn]) (by omega) (by unfold maxLen; omega) h)
    have r1 : (17 : Int) ≤ (n : Int) := by omega
    have r2 : (17 : Int) ≤ (c : Int) := by omega
    have r3 : ¬ c = 17 := by omega
    clear h hsd i2 i3 i4 i5 j2 j3 j4 j5 j6 j7
    go_upto_region 5 with (go_at_call 62; (with_reducible refine HRL.out.mono ?_); rintro e w3 ⟨rfl, hb3⟩)
    replace PZ2 := PZ2.keep hb3 (by omega)
    replace GG2 := GG2.keep hb3 (by omega)
    replace SN := SN.keep hb3 l2
    replace hb2 := hb2.trans (hb3.mono (Nat.le_of_lt l2))
    replace hb02 := bt hb02 hb3
    replace l2 := Nat.lt_of_lt_of_le l2 hb3.size
    have HSR := Lib.hid (HSL.out (18 + t.length) w3 hb02)
    clear HRL hb3 HSL
    go_cut [9] from 39 to 43 (fun v wx => ∃ (AR : Option Addr) (cR : Nat), v = .slice AR (n - (18 + t.length)) cR ∧ n - (18 + t.length) ≤ cR ∧ cR ≤ c ∧ Sl w3 w.heap.size AR (b.drop (18 + t.length)) ∧ w3 = wx)
    case first =>
      have q1 : (17 : Int) + (1 + (t.length : Int)) ≤ (n : Int) := by omega
      have q2 : (17 : Int) + (1 + (t.length : Int)) ≤ (c : Int) := by omega
      have q3 : ((17 : Int) + (1 + (t.length : Int))).toNat = 18 + t.length := by omega
      have q4 : (0 : Int) ≤ (17 : Int) + (1 + (t.length : Int)) := by omega
      by_cases hc : c = 18 + t.length
      · subst hc
        go_wp2_with fail
        go_meet
        exact ⟨some ⟨bb, off, none⟩, 0, by rw [show n - (18 + t.length) = 0 by omega], by omega, by omega, by rw [List.drop_eq_nil_of_le (by omega)]; exact Sl.nil _ _ _, rfl⟩
      · go_wp2_with fail
        go_meet
        exact ⟨_, _, rfl, by omega, by omega, HSR.out, rfl⟩
    case rest =>
      obtain ⟨AR, cR, rfl, hcR, hcc, SR, rfl⟩ := hcut
      clear HSR
      obtain ⟨o1, o2, -⟩ := id ho
      obtain ⟨g0, g1, -, -, -⟩ := id GG2
      have p1 : ((1 : Int) + (t.length : Int) == 0) = false := beq_eq_false_iff_ne.2 (by omega)
      have pz : (0 : Int) ≤ (Z : Int) * ((D : Int) + 6) := Int.mul_nonneg (by omega) (by omega)
      have pz2 : (Z : Int) * ((D : Int) + 6) ≤ 40 := by
        have := Int.mul_le_mul (show (Z : Int) ≤ 4 by omega) (show (D : Int) + 6 ≤ 10 by omega) (by omega) (by omega)
        omega
      have p3 : (((n - (18 + t.length) : Nat) : Int) != (Z : Int) * ((D : Int) + 6)) = true := by
        rw [List.length_drop, hn] at hl
        have h1 : ((n - (18 + t.length) : Nat) : Int) ≠ ((Z * (D + 6) : Nat) : Int) := fun h => hl (by omega)
        rw [Int.natCast_mul, Int.natCast_add] at h1
        exact bne_iff_ne.2 h1
      obtain ⟨z0, z1, z2, z3, z4, z5, z6, f0, f1, f2, f3, f4, f5, f6⟩ := id PZ2
      clear hl ho
      go_wp2_with fail
      have k7 := (((((((PZ2.set0 (.int .i64 0)).set1 (.int .i64 0)).set2 (.int .i64 0)).set3 (.int .i64 0)).set4 (.int .i64 0)).set5 (.string ⟨#[]⟩)).set6 (.slice none 0 0))
      exact bodyPost_ret (v := .tuple #[.agg #[.int .i64 0, .int .i64 0, .int .i64 0, .int .i64 0, .int .i64 0, .string ⟨#[]⟩, .slice none 0 0], .bool false]) (by simp [results, Tryd.results37, go_sem, k7.c0, k7.c1, k7.c2, k7.c3, k7.c4, k7.c5, k7.c6]) rfl ⟨⟨noAV, rfl, rfl, noAV_own _ _⟩, below7 hb02 (by omega)⟩
end Go.Proofs.YtdjleimndolonaaDoor.anc

namespace Go.Proofs.YtdjleimndolonaaDoor.anc
open Go.RowKit Go.Lib
open Go.Proofs.YtdjleimndolonaaDoor.gmt (Ok five_new)
open Go.Proofs.YtdjleimndolonaaDoor.pck (num ref_get)
open Go.Proofs.YtdjleimndolonaaDoor.lbl (encL readL labE lab_len)

theorem num_one (x : UInt8) (l : List UInt8) : num ((x :: l).take 1) = x.toNat := by simp [num]
/-- The first bytes, as numbers. -/
def plN (l : List UInt8) (j : Nat) : List Int := (l.take j).map (fun x => (x.toNat : Int))
theorem plN_len {l : List UInt8} {j : Nat} (h : j ≤ l.length) : (plN l j).length = j := by unfold plN; rw [List.length_map, List.length_take]; omega
theorem bytes_next {l : List UInt8} {t : Nat} (ht : t < l.length) : plN l (t + 1) = plN l t ++ [(l[t].toNat : Int)] := by
  unfold plN
  rw [List.take_succ_eq_append_getElem ht, List.map_append]
  rfl
theorem ints_add (a : List Int) (x : Int) : ints (a ++ [x]) = ints a ++ [.int .i64 x] := by simp [ints]

set_option maxRecDepth 100000 in
set_option maxHeartbeats 8000000 in
theorem rread_go (Z D : Nat) (s l a : Int) (A : Option Addr) (c n : Nat) (b : List UInt8) (w : World) (hn : b.length = n) (h18 : 18 ≤ n) (hA : Sl w w.heap.size A b) (hm : n ≤ c) (hmax : c ≤ maxLen) (t : List UInt8) (h : readL (b.drop 17) = some t) (ho : Ok Z D s l a) (hl : (b.drop (18 + t.length)).length = Z * (D + 6)) (hn3 : n ≤ 300) (x : Anc) (hx : ancN b t (homesN D (b.drop (18 + t.length)) Z) = x) (g : Bool) (hg : g = true ↔ Good Z D s l x) :
    Calls Tryd.prog 37 #[.agg #[.int .i64 Z, .int .i64 D, .int .i64 s, .int .i64 l, .int .i64 a], .slice A n c] w fun e w' => RdQ w.heap.size (if g = true then x else noAnc) g e w' ∧ Below w.heap.size w w' := by
  have HG := Lib.hid hg
  have HXX := Lib.hid hx
  clear hg hx
  obtain ⟨bb, off, rfl, hbb, hcb⟩ := id (hA (by omega))
  have hb16 := hcb 16 (by omega)
  unfold by8 at hb16
  have hx16 := b[16].toNat_lt
  have HSL := Lib.hid (show ∀ (k : Nat) (W : World), Below w.heap.size w W → Sl W w.heap.size (some ⟨bb, off + k, none⟩) (b.drop k) from fun k W h => (hA.below h).drop k)
  have cg : ∀ (k : Nat), k ≤ 12 → ∀ W, Below w.heap.size w W → Calls Tryd.prog 61 #[.slice (some ⟨bb, off + k, none⟩) (n - k) (c - k), .int .i64 4] W fun e w' => e = .returned (.int .i64 (num ((b.drop k).take 4))) ∧ W = w' := fun k hk W hW =>
    ref_get 4 (n - k) _ (c - k) _ (b.drop k) W (by omega) (by rw [List.length_drop, hn]) (by omega) (HSL.out k W hW)
  have d0 := cg 0 (by omega)
  have d4 := cg 4 (by omega)
  have d8 := cg 8 (by omega)
  have d12 := cg 12 (by omega)
  simp only [Nat.sub_zero, Nat.add_zero, List.drop_zero] at d0
  have D0 := Lib.hid d0
  have D4 := Lib.hid d4
  have D8 := Lib.hid d8
  have D12 := Lib.hid d12
  clear cg d0 d4 d8 d12 hcb
  unfold maxLen at hmax
  have i1 : ¬ (n : Int) < 18 := by omega
  have i2 : (4 : Int) ≤ (n : Int) := by omega
  have i3 : (8 : Int) ≤ (n : Int) := by omega
  have i4 : (12 : Int) ≤ (n : Int) := by omega
  have i5 : (16 : Int) < (n : Int) := by omega
  have j2 : (4 : Int) ≤ (c : Int) := by omega
  have j3 : (8 : Int) ≤ (c : Int) := by omega
  have j4 : (12 : Int) ≤ (c : Int) := by omega
  have j5 : ¬ c = 4 := by omega
  have j6 : ¬ c = 8 := by omega
  have j7 : ¬ c = 12 := by omega
  have GG := (g5_new w Z D s l a).keep (bl (w.alloc (.cells #[.int .i64 Z, .int .i64 D, .int .i64 s, .int .i64 l, .int .i64 a] 23)) (.cells #[.int .i64 0, .int .i64 0, .int .i64 0, .int .i64 0, .int .i64 0, .string ⟨#[]⟩, .slice none 0 0] 31)) (by simp)
  have PZ := sev_new (w.alloc (.cells #[.int .i64 Z, .int .i64 D, .int .i64 s, .int .i64 l, .int .i64 a] 23)) (.int .i64 0) (.int .i64 0) (.int .i64 0) (.int .i64 0) (.int .i64 0) (.string ⟨#[]⟩) (.slice none 0 0) 31
  rw [show (w.alloc (.cells #[.int .i64 Z, .int .i64 D, .int .i64 s, .int .i64 l, .int .i64 a] 23)).heap.size = w.heap.size + 1 by simp] at PZ
  have hb0 := kal (bl w (.cells #[.int .i64 Z, .int .i64 D, .int .i64 s, .int .i64 l, .int .i64 a] 23)) (.cells #[.int .i64 0, .int .i64 0, .int .i64 0, .int .i64 0, .int .i64 0, .string ⟨#[]⟩, .slice none 0 0] 31)
  have l1 : w.heap.size + 1 < ((w.alloc (.cells #[.int .i64 Z, .int .i64 D, .int .i64 s, .int .i64 l, .int .i64 a] 23)).alloc (.cells #[.int .i64 0, .int .i64 0, .int .i64 0, .int .i64 0, .int .i64 0, .string ⟨#[]⟩, .slice none 0 0] 31)).heap.size := by simp
  go_enter Tryd.func37, Tryd.ntmps37
  go_upto_region 1 with fail
  generalize (w.alloc (.cells #[.int .i64 Z, .int .i64 D, .int .i64 s, .int .i64 l, .int .i64 a] 23)).alloc (.cells #[.int .i64 0, .int .i64 0, .int .i64 0, .int .i64 0, .int .i64 0, .string ⟨#[]⟩, .slice none 0 0] 31) = w0 at *
  go_upto_region 3 with fail
  go_cut [6] from 17 to 33 (fun v wx => v = .pointer (some ⟨w0.heap.size, 0, none⟩) ∧ Sev wx w0.heap.size (.int .i64 (num (b.take 4))) (.int .i64 (num ((b.drop 4).take 4))) (.int .i64 (b[16].toNat : Int)) (.int .i64 (num ((b.drop 8).take 4))) (.int .i64 (num ((b.drop 12).take 4))) (.string ⟨#[]⟩) (.slice none 0 0) ∧ Below w0.heap.size w0 wx ∧ w0.heap.size < wx.heap.size)
  case first =>
      have hc16 := kst hb0 hbb hb16
      have lb : bb < w0.heap.size := Nat.lt_trans hbb (Nat.lt_of_succ_lt l1)
      have HF := Lib.hid (show ∀ W, Below w0.heap.size w0 W → W.cell? ⟨bb, off + 16, none⟩ = some (.int .u8 (b[16].toNat : Int)) ∧ Below w0.heap.size w0 W from fun W h => ⟨kst h lb hc16, h⟩)
      have wb : IntKind.i64.wrap (b[16].toNat : Int) = (b[16].toNat : Int) := IntWalk.i64_in _ (by omega)
      have PN := (sev_new w0 (.int .i64 0) (.int .i64 0) (.int .i64 0) (.int .i64 0) (.int .i64 0) (.string ⟨#[]⟩) (.slice none 0 0) 31).keep (B := w0.heap.size + 1) (below_dr (Below.refl _ _)) (by omega)
      obtain ⟨y0, y1, y2, y3, y4, y5, y6, k0, k1, k2, k3, k4, k5, k6⟩ := id PN
      go_region_held3 (fun W => W.cell? ⟨bb, off + 16, none⟩ = some (.int .u8 (b[16].toNat : Int)) ∧ Below w0.heap.size w0 W)
        ((refine HF.out _ ?_; first
          | with_reducible exact kal (below_dr (Below.refl _ _)) _
          | with_reducible exact below_dr (bl w0 _)
          | with_reducible exact bl w0 _
          | with_reducible exact below_dr (Below.refl _ _)
          | with_reducible exact Below.refl _ _
          | fail))
        (first
          | (go_at_call 61; (with_reducible refine (D0.out _ (bt hb0 (below_dr (Below.refl _ _)))).mono ?_); rintro e wq ⟨rfl, rfl⟩)
          | (go_at_call 61; (with_reducible refine (D0.out _ (bt hb0 (below_dr (bl w0 _)))).mono ?_); rintro e wq ⟨rfl, rfl⟩)
          | (go_at_call 61; (with_reducible refine (D4.out _ (bt hb0 (below_dr (Below.refl _ _)))).mono ?_); rintro e wq ⟨rfl, rfl⟩)
          | (go_at_call 61; (with_reducible refine (D4.out _ (bt hb0 (below_dr (bl w0 _)))).mono ?_); rintro e wq ⟨rfl, rfl⟩)
          | (go_at_call 61; (with_reducible refine (D8.out _ (bt hb0 (below_dr (Below.refl _ _)))).mono ?_); rintro e wq ⟨rfl, rfl⟩)
          | (go_at_call 61; (with_reducible refine (D8.out _ (bt hb0 (below_dr (bl w0 _)))).mono ?_); rintro e wq ⟨rfl, rfl⟩)
          | (go_at_call 61; (with_reducible refine (D12.out _ (bt hb0 (below_dr (Below.refl _ _)))).mono ?_); rintro e wq ⟨rfl, rfl⟩)
          | (go_at_call 61; (with_reducible refine (D12.out _ (bt hb0 (below_dr (bl w0 _)))).mono ?_); rintro e wq ⟨rfl, rfl⟩)
          | fail)
      all_goals (go_wp2_with fail; go_meet)
      all_goals exact ⟨rfl, (sev_new w0 _ _ _ _ _ _ _ _).keep (B := w0.heap.size + 1) (below_dr (Below.refl _ _)) (by omega), below_dr (bl w0 _), by simp⟩
  case rest =>
    obtain ⟨w2, rfl⟩ : ∃ x, x = wc := ⟨wc, rfl⟩
    obtain ⟨rfl, SN, hb2, l2⟩ := hcut
    have hb02 := bt hb0 hb2
    have GG2 := GG.keep hb2 (by omega)
    have PZ2 := PZ.keep hb2 l1
    clear GG PZ D0 D4 D8 D12
    have hsd := readL_sound h
    have htl : t.length + 18 ≤ n := by have h1 := hsd.2.2; rw [List.length_drop, hn] at h1; omega
    have HRL := Lib.hid (rlab_some (some ⟨bb, off + 17, none⟩) (c - 17) (n - 17) (b.drop 17) t w2 ((HSL.out 17 _ hb02).more hb02.size) (by rw [List.length_drop, hn]) (by omega) (by unfold maxLen; omega) h)
    have r1 : (17 : Int) ≤ (n : Int) := by omega
    have r2 : (17 : Int) ≤ (c : Int) := by omega
    have r3 : ¬ c = 17 := by omega
    clear h hsd i2 i3 i4 i5 j2 j3 j4 j5 j6 j7
    go_upto_region 5 with (go_at_call 62; (with_reducible refine HRL.out.mono ?_); rintro e w3 ⟨rfl, hb3⟩)
    replace PZ2 := PZ2.keep hb3 (by omega)
    replace GG2 := GG2.keep hb3 (by omega)
    replace SN := SN.keep hb3 l2
    replace hb2 := hb2.trans (hb3.mono (Nat.le_of_lt l2))
    replace hb02 := bt hb02 hb3
    replace l2 := Nat.lt_of_lt_of_le l2 hb3.size
    have HSR := Lib.hid (HSL.out (18 + t.length) w3 hb02)
    clear HRL hb3 HSL
    go_cut [9] from 39 to 43 (fun v wx => ∃ (AR : Option Addr) (cR : Nat), v = .slice AR (n - (18 + t.length)) cR ∧ n - (18 + t.length) ≤ cR ∧ cR ≤ c ∧ Sl w3 w.heap.size AR (b.drop (18 + t.length)) ∧ w3 = wx)
    case first =>
      have q1 : (17 : Int) + (1 + (t.length : Int)) ≤ (n : Int) := by omega
      have q2 : (17 : Int) + (1 + (t.length : Int)) ≤ (c : Int) := by omega
      have q3 : ((17 : Int) + (1 + (t.length : Int))).toNat = 18 + t.length := by omega
      have q4 : (0 : Int) ≤ (17 : Int) + (1 + (t.length : Int)) := by omega
      by_cases hc : c = 18 + t.length
      · subst hc
        go_wp2_with fail
        go_meet
        exact ⟨some ⟨bb, off, none⟩, 0, by rw [show n - (18 + t.length) = 0 by omega], by omega, by omega, by rw [List.drop_eq_nil_of_le (by omega)]; exact Sl.nil _ _ _, rfl⟩
      · go_wp2_with fail
        go_meet
        exact ⟨_, _, rfl, by omega, by omega, HSR.out, rfl⟩
    case rest =>
      obtain ⟨AR, cR, rfl, hcR, hcc, SR, rfl⟩ := hcut
      clear HSR
      obtain ⟨o1, o2, -⟩ := id ho
      obtain ⟨g0, g1, -, -, -⟩ := id GG2
      have p1 : ((1 : Int) + (t.length : Int) == 0) = false := beq_eq_false_iff_ne.2 (by omega)
      have pz : (0 : Int) ≤ (Z : Int) * ((D : Int) + 6) := Int.mul_nonneg (by omega) (by omega)
      have pz2 : (Z : Int) * ((D : Int) + 6) ≤ 40 := by
        have := Int.mul_le_mul (show (Z : Int) ≤ 4 by omega) (show (D : Int) + 6 ≤ 10 by omega) (by omega) (by omega)
        omega
      have p3 : (((n - (18 + t.length) : Nat) : Int) != (Z : Int) * ((D : Int) + 6)) = false := by
        have h0 := hl
        rw [List.length_drop, hn] at h0
        rw [h0, Int.natCast_mul, Int.natCast_add]
        exact bne_self_eq_false _
      have HL := Lib.hid hl
      have HO := Lib.hid ho
      obtain ⟨ga, hga⟩ : ∃ g, g = w0.heap.size := ⟨_, rfl⟩
      rw [← hga] at SN l1 l2 hb2 ⊢
      clear hga
      obtain ⟨R, hR⟩ : ∃ R, R = b.drop (18 + t.length) := ⟨_, rfl⟩
      rw [← hR] at SR
      have hRl : R.length = Z * (D + 6) := by rw [hR]; exact hl
      have HRL2 := Lib.hid hRl
      have HRE := Lib.hid hR
      clear hl ho hR hRl
      obtain ⟨y0, y1, y2, y3, y4, y5, y6, k0, k1, k2, k3, k4, k5, k6⟩ := id SN
      have HMQ := Lib.hid (show n - (18 + t.length) = Z * (D + 6) by have h1 := HL.out; rw [List.length_drop, hn] at h1; exact h1)
      go_upto_region 9 with fail
      have hB4 : Below ga w3 (w3.setCell ⟨ga, 5, none⟩ (.string ⟨t.toArray⟩)) := (Below.refl ga w3).setCell (p := ⟨ga, 5, none⟩) (Nat.le_refl ga) _
      have SN5 := SN.set5 (.string ⟨t.toArray⟩)
      have SR4 := SR.below (hB4.mono (Nat.le_of_lt (Nat.lt_of_succ_lt l1)))
      have PZ4 := PZ2.keep hB4 (by omega)
      have GG4 := GG2.keep hB4 (by omega)
      have hb04 := hb02.trans (hB4.mono (by omega))
      have l4 : ga < (w3.setCell ⟨ga, 5, none⟩ (.string ⟨t.toArray⟩)).heap.size := by simpa using l2
      clear y0 y1 y2 y3 y4 y5 y6 k0 k1 k2 k3 k4 k5 k6 g0 g1 SN SR PZ2 GG2 hb02 hb2 l2 hB4 p1 p3
      generalize w3.setCell ⟨ga, 5, none⟩ (.string ⟨t.toArray⟩) = w4 at *
      obtain ⟨g0, g1, -, -, -⟩ := id GG4
      go_wp2_with fail
      go_loopw [9, 10] (fun vr i w' => ∃ (k : Nat) (rs : List HomR) (v : Value) (AK : Option Addr) (q cK : Nat), k ≤ Z ∧ i = .int .i64 k ∧ vr = .slice AK q cK ∧ q + k * (D + 6) = Z * (D + 6) ∧ q ≤ cK ∧ cK ≤ c ∧ Sl w4 w.heap.size AK (R.drop (k * (D + 6))) ∧ hds rs = homesN D R k ∧ OwnH w' (ga + 1) v rs ∧ Sev w' ga (.int .i64 (num (b.take 4))) (.int .i64 (num ((b.drop 4).take 4))) (.int .i64 (b[16].toNat : Int)) (.int .i64 (num ((b.drop 8).take 4))) (.int .i64 (num ((b.drop 12).take 4))) (.string ⟨t.toArray⟩) v ∧ Below ga w4 w' ∧ ga + 1 ≤ w'.heap.size) (fun _ i _ => Z - (RowKit.intOf i).toNat)
      case atStart => exact ⟨0, [], .slice none 0 0, AR, n - (18 + t.length), cR, Nat.zero_le _, rfl, rfl, by rw [HMQ.out]; simp, hcR, hcc, by simpa using SR4, rfl, ownH_nil _ _, SN5, Below.refl _ _, l4⟩
      case round =>
        clear g0 g1 SR4 SN5
        obtain ⟨w5, rfl⟩ : ∃ x, x = wr := ⟨wr, rfl⟩
        obtain ⟨k, rs, v, AK, q, cK, hk, rfl, rfl, hq, hqc, hcK, hsk, hrs, hown, P5, hb5, hl5⟩ := hrel
        by_cases hlt : k < Z
        · have hqk : D + 6 ≤ q := by
            have h1 := Nat.mul_le_mul_right (D + 6) (show k + 1 ≤ Z from hlt)
            rw [Nat.succ_mul] at h1
            omega
          have hq300 : q ≤ 40 := by
            have h1 := Nat.mul_le_mul (show Z ≤ 4 by omega) (show D + 6 ≤ 10 by omega)
            omega
          obtain ⟨RK, hRK⟩ : ∃ L, L = R.drop (k * (D + 6)) := ⟨_, rfl⟩
          rw [← hRK] at hsk
          have hRKl : RK.length = q := by rw [hRK, List.length_drop, HRL2.out]; omega
          obtain ⟨br, or, rfl, hbr, hce⟩ := id (hsk (by omega))
          have HE := Lib.hid (show ∀ (W : World), Below ga w4 W → ∀ (t : Nat) (ht : t < RK.length), W.cell? ⟨br, or + t, none⟩ = some (.int .u8 (RK[t].toNat : Int)) from fun W h t ht => ks h (by omega) (hce t ht))
          have HGK := Lib.hid (show ∀ (W : World), Below ga w4 W → Calls Tryd.prog 61 #[.slice (some ⟨br, or + (D + 2), none⟩) (q - (D + 2)) (cK - (D + 2)), .int .i64 4] W fun e w' => e = .returned (.int .i64 (num ((RK.drop (D + 2)).take 4))) ∧ W = w' from fun W h =>
            ref_get 4 (q - (D + 2)) _ (cK - (D + 2)) w.heap.size (RK.drop (D + 2)) W (by omega) (by rw [List.length_drop, hRKl]) (by omega) ((hsk.drop (D + 2)).below (h.mono (by omega))))
          have hlk : rs.length = k := by
            have h1 := congrArg List.length hrs
            rwa [hds_length, homesN_len] at h1
          have HRS := Lib.hid hrs
          have HSK := Lib.hid hsk
          have HRK := Lib.hid hRK
          have HRKL := Lib.hid hRKl
          have HLK := Lib.hid hlk
          have HQ := Lib.hid hq
          clear hce hsk hrs hRK hRKl hlk hq
          obtain ⟨g0, g1, -, -, -⟩ := id (GG4.keep hb5 (by omega))
          have i1 : (k : Int) < (Z : Int) := by omega
          go_upto_region 13 with fail
          have T0 := tri_new w5 (.slice none 0 0) (.int .i64 0) (.int .i64 0) 62
          have hx0 := bl w5 (.cells #[.slice none 0 0, .int .i64 0, .int .i64 0] 62)
          have lx : (w5.alloc (.cells #[.slice none 0 0, .int .i64 0, .int .i64 0] 62)).heap.size = w5.heap.size + 1 := by simp
          clear g0 g1
          generalize w5.alloc (.cells #[.slice none 0 0, .int .i64 0, .int .i64 0] 62) = w6 at *
          obtain ⟨g0, g1, -, -, -⟩ := id ((GG4.keep hb5 (by omega)).keep hx0 (by omega))
          go_wp2_with fail
          go_loopw [12] (fun i w' => ∃ (t : Nat) (vq : Value), t ≤ D + 1 ∧ i = .int .i64 t ∧ OwnV w' (w5.heap.size + 1) 3 vq (ints (plN RK t)) ∧ Tri w' w5.heap.size vq (.int .i64 0) (.int .i64 0) ∧ Below w5.heap.size w5 w' ∧ w5.heap.size + 1 ≤ w'.heap.size) (fun i _ => D + 1 - (RowKit.intOf i).toNat)
          case atStart => exact ⟨0, .slice none 0 0, by omega, rfl, ownV_nil _ _ _, T0, hx0, by omega⟩
          case round =>
            clear T0 hx0 lx g0 g1 w6
            obtain ⟨w7, rfl⟩ : ∃ x, x = wr := ⟨wr, rfl⟩
            obtain ⟨j, vq, hj, rfl, hoq, T3, hb7, hl7⟩ := hrel
            have hb57 : Below ga w4 w7 := bm hb5 (by omega) hb7
            obtain ⟨g0, g1, -, -, -⟩ := id (GG4.keep hb57 (by omega))
            by_cases hjt : j < D + 1
            · have i2 : (j : Int) ≤ (D : Int) := by omega
              have i3 : (j : Int) < (q : Int) := by omega
              have i4 : (0 : Int) ≤ (j : Int) := by omega
              have hjR : j < RK.length := by have := HRKL.out; omega
              have e0 := HE.out w7 hb57 j hjR
              have hby := RK[j].toNat_lt
              have wby : IntKind.i64.wrap (RK[j].toNat : Int) = (RK[j].toNat : Int) := IntWalk.i64_in _ (by omega)
              have n0 := T3.c0
              have HIL := Lib.hid (show (ints (plN RK j)).length = j by rw [ints_length, plN_len (by omega)])
              have HNX := Lib.hid (show ints (plN RK j) ++ [.int .i64 (RK[j].toNat : Int)] = ints (plN RK (j + 1)) by rw [bytes_next hjR, ints_add])
              generalize (RK[j].toNat : Int) = by0 at *
              go_wp2_with fail
              refine wp_region_tail (S := fun W => W.cell? ⟨w5.heap.size, 0, none⟩ = some vq ∧ W.cell? ⟨br, or + j, none⟩ = some (.int .u8 by0) ∧ Below (w5.heap.size + 1) w7 W) 10 rfl (by kernel_rfl) (by kernel_rfl) ⟨n0, e0, below_dr (Below.refl _ _)⟩ (fun hS => ?_)
              simp only [List.take_succ_cons, List.take_zero]
              (refine wpAnyH_take (i := 0) (v := ?_) rfl (by kernel_rfl) (by kernel_rfl) (by kernel_rfl) (fun _ _ _ h => h) (Or.inl ⟨by rfl, ?_⟩) (by assumption) ?_; rotate_left; (focus (intro w hSw; (try dsimp only at hSw); go_split_ands; go_simp <;> with_reducible rfl)); simp only [List.getElem_toArray, List.getElem_cons_zero, Act.put, List.setIfInBounds_toArray, List.set_cons_zero, List.set_cons_succ])
              (refine wpAnyH_take (i := 1) (v := ?_) rfl (by kernel_rfl) (by kernel_rfl) (by kernel_rfl) (fun _ _ _ h => h) (Or.inl ⟨by rfl, ?_⟩) (by assumption) ?_; rotate_left; (focus (intro w hSw; (try dsimp only at hSw); go_split_ands; go_simp <;> with_reducible rfl)); simp only [List.getElem_toArray, List.getElem_cons_zero, List.getElem_cons_succ, Act.put, List.setIfInBounds_toArray, List.set_cons_zero, List.set_cons_succ])
              (refine wpAnyH_take (i := 2) (v := ?_) rfl (by kernel_rfl) (by kernel_rfl) (by kernel_rfl) (fun _ _ _ h => h) (Or.inl ⟨by rfl, ?_⟩) (by assumption) ?_; rotate_left; (focus (intro w hSw; (try dsimp only at hSw); go_split_ands; go_simp <;> with_reducible rfl)); simp only [List.getElem_toArray, List.getElem_cons_zero, List.getElem_cons_succ, Act.put, List.setIfInBounds_toArray, List.set_cons_zero, List.set_cons_succ])
              (refine wpAnyH_take (i := 3) (v := ?_) rfl (by kernel_rfl) (by kernel_rfl) (by kernel_rfl) (fun _ _ _ h => h) (Or.inl ⟨by rfl, ?_⟩) (by assumption) ?_; rotate_left; (focus (intro w hSw; (try dsimp only at hSw); go_split_ands; go_simp <;> with_reducible rfl)); simp only [List.getElem_toArray, List.getElem_cons_zero, List.getElem_cons_succ, Act.put, List.setIfInBounds_toArray, List.set_cons_zero, List.set_cons_succ])
              (refine wpAnyH_take (i := 4) (v := ?_) rfl (by kernel_rfl) (by kernel_rfl) (by kernel_rfl) (fun _ _ _ h => h) (Or.inl ⟨by rfl, ?_⟩) (by assumption) ?_; rotate_left; (focus (intro w hSw; (try dsimp only at hSw); go_split_ands; go_simp <;> with_reducible rfl)); simp only [List.getElem_toArray, List.getElem_cons_zero, List.getElem_cons_succ, Act.put, List.setIfInBounds_toArray, List.set_cons_zero, List.set_cons_succ])
              (refine wpAnyH_take (i := 5) (v := ?_) rfl (by kernel_rfl) (by kernel_rfl) (by kernel_rfl) (fun _ _ _ h => h) (Or.inl ⟨by rfl, ?_⟩) (by assumption) ?_; rotate_left; (focus (intro w hSw; (try dsimp only at hSw); go_split_ands; go_simp <;> with_reducible rfl)); simp only [List.getElem_toArray, List.getElem_cons_zero, List.getElem_cons_succ, Act.put, List.setIfInBounds_toArray, List.set_cons_zero, List.set_cons_succ])
              (refine wpAnyH_take (i := 6) (v := ?_) rfl (by kernel_rfl) (by kernel_rfl) (by kernel_rfl) (fun _ _ _ h => h) (Or.inl ⟨by rfl, ?_⟩) (by assumption) ?_; rotate_left; (focus (intro w hSw; (try dsimp only at hSw); go_split_ands; go_simp <;> with_reducible rfl)); simp only [List.getElem_toArray, List.getElem_cons_zero, List.getElem_cons_succ, Act.put, List.setIfInBounds_toArray, List.set_cons_zero, List.set_cons_succ])
              refine wpAnyH_ready (rs := [7]) (by kernel_rfl) (by simp) ?_
              refine AllReadyH.cons rfl (fun K hK => ?_) AllReadyH.nil
              go_simp
              have sa : Below (w5.heap.size + 1) w7 (w7.alloc (.cells #[.int .i64 by0] 3)).drew := below_dr (ka (Below.refl _ _) hl7 _)
              refine hK.out _ _ ⟨ks sa (by omega) n0, ks sa (by omega) e0, sa⟩ (fun hS => ?_)
              clear hK K
              refine wpAnyH_ready (rs := [8]) (by kernel_rfl) (by simp) ?_
              refine AllReadyH.cons rfl (fun K hK => ?_) AllReadyH.nil
              have oa : OwnV (w7.alloc (.cells #[.int .i64 by0] 3)).drew (w5.heap.size + 1) 3 vq _ := (hoq.alloc (.cells #[.int .i64 by0] 3)).drew
              have src := (SlV.of_block (W := (w7.alloc (.cells #[.int .i64 by0] 3)).drew) (vs := [.int .i64 by0]) (heap_alloc_new w7 (.cells #[.int .i64 by0] 3)) rfl (Nat.lt_succ_self _)).src (ints_one [by0]) Tryd.underlying51 1
              have hlz : w5.heap.size + 1 ≤ (w7.alloc (.cells #[.int .i64 by0] 3)).drew.heap.size := Nat.le_trans hl7 sa.size
              generalize (w7.alloc (.cells #[.int .i64 by0] 3)).drew = wa at *
              refine step_appV wa (by rfl) _ _ _ _ (by rfl) (w5.heap.size + 1) 3 tvI vq _ (by rfl) oa _ [.int .i64 by0] (by rfl) src (by rw [HIL.out]; unfold maxLen; simp; omega) (by rw [HIL.out]; simp; omega) hlz ?_
              intro v3 w8 h3 hg3 hat3
              have hb8 : Below (w5.heap.size + 1) w7 w8 := sa.grown hg3 hlz (fun x hx => (World.ownsRow.lt oa x hx).1)
              refine hK.out _ _ ⟨ks hb8 (by omega) n0, ks hb8 (by omega) e0, hb8⟩ (fun hS => ?_)
              clear hK K
              simp only [List.getElem_toArray, List.getElem_cons_zero, List.getElem_cons_succ, Act.put, List.setIfInBounds_toArray, List.set_cons_zero, List.set_cons_succ]
              (refine wpAnyH_take (i := 9) (v := ?_) rfl (by kernel_rfl) (by kernel_rfl) (by kernel_rfl) (fun _ _ _ h => h) (Or.inl ⟨by rfl, ?_⟩) (by assumption) ?_; rotate_left; (focus (intro w hSw; (try dsimp only at hSw); go_split_ands; go_simp <;> with_reducible rfl)); simp only [List.getElem_toArray, List.getElem_cons_zero, List.getElem_cons_succ, Act.put, List.setIfInBounds_toArray, List.set_cons_zero, List.set_cons_succ])
              refine wpAnyH_done (by kernel_rfl) ?_ _
              have T4 := T3.keep hb8 (by omega)
              have c0' := T4.c0
              have f0' := T4.f0
              rw [HNX.out] at h3
              obtain ⟨A3, d3, hv3, -, -, -, -⟩ := h3.form
              subst hv3
              simp only [tailQ]
              go_simp
              have T5 := T4.set0 (.slice A3 (ints (plN RK (j + 1))).length d3)
              have ho5 : OwnV (w8.setCell ⟨w5.heap.size, 0, none⟩ (.slice A3 (ints (plN RK (j + 1))).length d3)) (w5.heap.size + 1) 3 (.slice A3 (ints (plN RK (j + 1))).length d3) _ :=
                ownsRow_setCell_other h3 (fun hk => by have := (World.ownsRow.lt h3 w5.heap.size hk).1; omega) _
              have b9 : Below w5.heap.size w5 (w8.setCell ⟨w5.heap.size, 0, none⟩ (.slice A3 (ints (plN RK (j + 1))).length d3)) := (hb7.trans (hb8.mono (by omega))).setCell (Nat.le_refl _) _
              have hl9 : w5.heap.size + 1 ≤ (w8.setCell ⟨w5.heap.size, 0, none⟩ (.slice A3 (ints (plN RK (j + 1))).length d3)).heap.size := by have := hb8.size; simp; omega
              clear T4 h3 hb8 hg3 hat3 n0 e0 src oa sa hlz wby hby
              go_wp2
              go_roundw
              case rel => exact ⟨j + 1, _, by omega, by go_num, ho5, T5, b9, hl9⟩
              case measure => simp [RowKit.intOf]; omega
            · have i2 : ¬ (j : Int) ≤ (D : Int) := by omega
              obtain rfl : j = D + 1 := by omega
              have hD1 : D + 1 < RK.length := by have := HRKL.out; omega
              have e1 := HE.out w7 hb57 (D + 1) hD1
              have hby := RK[D + 1].toNat_lt
              have wby : IntKind.i64.wrap (RK[D + 1].toNat : Int) = (RK[D + 1].toNat : Int) := IntWalk.i64_in _ (by omega)
              have HNB := Lib.hid (show (RK[D + 1].toNat : Int) = (num ((RK.drop (D + 1)).take 1) : Int) by rw [List.drop_eq_getElem_cons hD1, num_one])
              generalize (RK[D + 1].toNat : Int) = by1 at *
              obtain ⟨nm, hnm⟩ : ∃ y : Nat, y = num ((RK.drop (D + 2)).take 4) := ⟨_, rfl⟩
              have HNM := Lib.hid hnm
              have HGET := Lib.hid (show Calls Tryd.prog 61 #[.slice (some ⟨br, or + (D + 2), none⟩) (q - (D + 2)) (cK - (D + 2)), .int .i64 4] w7.drew fun e w' => e = .returned (.int .i64 nm) ∧ w7.drew = w' from by
                rw [hnm]
                exact HGK.out _ (below_dr hb57))
              clear hnm
              have n0 := T3.c0
              have n1 := T3.c1
              have n2 := T3.c2
              have f1 := T3.f1
              have f2 := T3.f2
              have p1 : IntKind.i64.wrap ((D : Int) + 1) = (D : Int) + 1 := IntWalk.i64_in _ (by omega)
              have p2 : IntKind.i64.wrap ((D : Int) + 2) = (D : Int) + 2 := IntWalk.i64_in _ (by omega)
              have p3 : ((D : Int) + 1).toNat = D + 1 := by omega
              have p4 : ((D : Int) + 2).toNat = D + 2 := by omega
              have p5 : (0 : Int) ≤ (D : Int) + 1 := by omega
              have p6 : (D : Int) + 1 < (q : Int) := by omega
              have p7 : (0 : Int) ≤ (D : Int) + 2 := by omega
              have p8 : (D : Int) + 2 ≤ (q : Int) := by omega
              have p9 : (D : Int) + 2 ≤ (cK : Int) := by omega
              have p10 : ¬ cK = D + 2 := by omega
              have HS := Lib.hid (show ∀ W, Below w5.heap.size w7 W → W.cell? ⟨br, or + (D + 1), none⟩ = some (.int .u8 by1) ∧ W.cell? ⟨w.heap.size, 1, none⟩ = some (.int .i64 (D : Int)) ∧ Below w5.heap.size w7 W from fun W h => ⟨ks h (by omega) e1, ks h (by omega) g1, h⟩)
              go_upto_region 17 with fail
              go_region_held3 (fun W => W.cell? ⟨br, or + (D + 1), none⟩ = some (.int .u8 by1) ∧ W.cell? ⟨w.heap.size, 1, none⟩ = some (.int .i64 (D : Int)) ∧ Below w5.heap.size w7 W)
                ((refine HS.out _ ?_; first
                  | with_reducible exact below_dr (((Below.refl _ _).setCell (p := ⟨w5.heap.size, 1, none⟩) (Nat.le_refl _) _).setCell (p := ⟨w5.heap.size, 2, none⟩) (Nat.le_refl _) _)
                  | with_reducible exact below_dr ((Below.refl _ _).setCell (p := ⟨w5.heap.size, 1, none⟩) (Nat.le_refl _) _)
                  | with_reducible exact below_dr (Below.refl _ _)
                  | fail))
                (first
                  | (go_at_call 61; (with_reducible refine HGET.out.mono ?_); rintro e wq ⟨rfl, rfl⟩)
                  | fail)
              have hbS : Below w5.heap.size w7 (((w7.setCell ⟨w5.heap.size, 1, none⟩ (.int .i64 by1)).setCell ⟨w5.heap.size, 2, none⟩ (.int .i64 nm)).drew) := below_dr (((Below.refl _ _).setCell (p := ⟨w5.heap.size, 1, none⟩) (Nat.le_refl _) _).setCell (p := ⟨w5.heap.size, 2, none⟩) (Nat.le_refl _) _)
              have T8 : Tri (((w7.setCell ⟨w5.heap.size, 1, none⟩ (.int .i64 by1)).setCell ⟨w5.heap.size, 2, none⟩ (.int .i64 nm)).drew) w5.heap.size vq (.int .i64 by1) (.int .i64 nm) := ((T3.set1 (.int .i64 by1)).set2 (.int .i64 nm)).keep (B := w5.heap.size + 1) (below_dr (Below.refl _ _)) (Nat.lt_succ_self _)
              have hne : ∀ q, vq.ownBlock = some q → w5.heap.size + 1 ≤ q := fun q h => (World.ownsRow.lt hoq q h).1
              have ho8 : OwnV (((w7.setCell ⟨w5.heap.size, 1, none⟩ (.int .i64 by1)).setCell ⟨w5.heap.size, 2, none⟩ (.int .i64 nm)).drew) (w5.heap.size + 1) 3 vq (ints (plN RK (D + 1))) := OwnV.drew (ownsRow_setCell_other (ownsRow_setCell_other hoq (fun h => absurd (hne _ h) (Nat.not_succ_le_self _)) _) (fun h => absurd (hne _ h) (Nat.not_succ_le_self _)) _)
              clear n0 n1 n2 f1 f2 g0 g1 e1 HS HGET T3 hoq hne
              generalize ((w7.setCell ⟨w5.heap.size, 1, none⟩ (.int .i64 by1)).setCell ⟨w5.heap.size, 2, none⟩ (.int .i64 nm)).drew = w8 at *
              have hb58 : Below w5.heap.size w5 w8 := hb7.trans hbS
              have hb48 : Below ga w4 w8 := bm hb5 (by omega) hb58
              have hl8 := hb58.size
              have P8 := P5.keep hb58 (by omega)
              have ow := hown.below hb58
              have p6' := P8.c6
              have f6' := P8.f6
              obtain ⟨g0, g1, -, -, -⟩ := id (GG4.keep hb48 (by omega))
              obtain ⟨A2, d2, hv2, -, -, -, -⟩ := ho8.form
              subst hv2
              have hlv : (ints (plN RK (D + 1))).length = D + 1 := by rw [ints_length, plN_len (by omega)]
              rw [hlv] at T8 ho8
              obtain ⟨n0, n1, n2, -, -, -⟩ := id T8
              have hlm : (plN RK (D + 1)).length = D + 1 := plN_len (by omega)
              have HLM := Lib.hid hlm
              have HOO := Lib.hid ho8
              clear p1 p2 p3 p4 p5 p6 p7 p8 p9 p10 hlv hlm ho8 T8 hbS hb57 hl7
              have hlk := HLK.out
              have s1 : (0 : Int) ≤ (D : Int) + 6 := by omega
              have s2 : (D : Int) + 6 ≤ (q : Int) := by omega
              have s3 : (D : Int) + 6 ≤ (cK : Int) := by omega
              have s4 : ((D : Int) + 6).toNat = D + 6 := by omega
              have hqn : q - (D + 6) + (k + 1) * (D + 6) = Z * (D + 6) := by rw [Nat.succ_mul]; have := HQ.out; omega
              have HQN := Lib.hid hqn
              have hdr : R.drop ((k + 1) * (D + 6)) = RK.drop (D + 6) := by rw [HRK.out, List.drop_drop, Nat.succ_mul]
              have HDR := Lib.hid hdr
              have hdn : ∀ A d, hds (rs ++ [⟨A, d, plN RK (D + 1), by1, nm⟩]) = homesN D R (k + 1) := fun A d => by
                rw [hds_append, HRS.out, homesN_next, ← HRK.out, HNB.out, HNM.out]
                rfl
              have HDN := Lib.hid hdn
              have hZ4 : Z ≤ 4 := by omega
              clear hqn hdr hdn
              by_cases hcd : cK = D + 6
              · subst hcd
                go_wp2_with (first
                  | (at_builtin
                     refine wpList_row _ rfl (.tmp 98) (.tmp 100) _ _ rfl (ga + 1) 3 40 62 (.agg #[.slice none 0 0, .int .i64 0, .int .i64 0]) Tryd.underlying29 h_info rfl v rs.length (hvs rs) rfl (World.ownsRow.alloc ow.1 _) _ 1 _ rfl (src_home (P := Tryd.prog) (heap_alloc_new w8 _) Tryd.underlying29 (by simp [Value.oneCell'])) (by rw [hlk]; unfold maxLen; omega) (by omega) (by simp; omega) ?_
                     intro v3 w9 h3 hg3
                     have b9 : Below (ga + 1) w8 w9 := ((Below.refl (ga + 1) w8).alloc (by omega) _).grown hg3 (by simp; omega) (fun x hx => (World.ownsRow.lt ow.1 x hx).1)
                     have P9 := P8.keep b9 (by omega)
                     have c9 := P9.c6
                     have f9 := P9.f6
                     replace g1 := ks b9 (by omega) g1
                     have g1s : (w9.setCell ⟨ga, 6, none⟩ undef).cell? ⟨w.heap.size, 1, none⟩ = w9.cell? ⟨w.heap.size, 1, none⟩ := World.cell?_setCell_other _ _ _ _ (fun h => by have := congrArg Addr.block h; simp at this; omega)
                     obtain ⟨A3, d3, hv3, -, -, -⟩ := row_form h3
                     subst hv3))
                have hr3 : OwnV (w8.alloc (.cells #[.slice A2 (D + 1 : Nat) d2, .int .i64 by1, .int .i64 nm] 62)) (ga + 1) 3 (.slice A2 (plN RK (D + 1)).length d2) (ints (plN RK (D + 1))) := by
                  rw [HLM.out]
                  exact (HOO.out.alloc _).less (by omega)
                have hmo := (ow.below (bl w8 (.cells #[.slice A2 (D + 1 : Nat) d2, .int .i64 by1, .int .i64 nm] 62))).more (r := ⟨A2, d2, plN RK (D + 1), by1, nm⟩) hg3 hr3 (by have := h3; unfold HomR.vs; rw [HLM.out]; exact this)
                have hfin : OwnH (w9.setCell ⟨ga, 6, none⟩ (.slice A3 (k + 1 : Nat) d3)) (ga + 1) (.slice A3 (k + 1 : Nat) d3) (rs ++ [⟨A2, d2, plN RK (D + 1), by1, nm⟩]) := by
                  rw [← hlk]
                  exact OwnH.cell_set hmo (by omega) _
                have bfin : Below ga w4 (w9.setCell ⟨ga, 6, none⟩ (.slice A3 (k + 1 : Nat) d3)) := (hb48.trans (b9.mono (Nat.le_succ _))).setCell (p := ⟨ga, 6, none⟩) (Nat.le_refl ga) _
                have hsz := b9.size
                have HFI := Lib.hid hfin
                have P10 := P9.set6 (.slice A3 (k + 1 : Nat) d3)
                rw [hlk] at *
                go_roundw
                case rel => exact ⟨k + 1, _, _, some ⟨br, or, none⟩, 0, 0, by omega, by go_num, rfl, by have := HQN.out; omega, by omega, by omega, by rw [HDR.out, List.drop_eq_nil_of_le (by have := HRKL.out; omega)]; exact Sl.nil _ _ _, HDN.out A2 d2, HFI.out, P10, bfin, by simp; omega⟩
                case measure => simp [RowKit.intOf]; omega
              · skip
                go_wp2_with (first
                  | (at_builtin
                     refine wpList_row _ rfl (.tmp 98) (.tmp 100) _ _ rfl (ga + 1) 3 40 62 (.agg #[.slice none 0 0, .int .i64 0, .int .i64 0]) Tryd.underlying29 h_info rfl v rs.length (hvs rs) rfl (World.ownsRow.alloc ow.1 _) _ 1 _ rfl (src_home (P := Tryd.prog) (heap_alloc_new w8 _) Tryd.underlying29 (by simp [Value.oneCell'])) (by rw [hlk]; unfold maxLen; omega) (by omega) (by simp; omega) ?_
                     intro v3 w9 h3 hg3
                     have b9 : Below (ga + 1) w8 w9 := ((Below.refl (ga + 1) w8).alloc (by omega) _).grown hg3 (by simp; omega) (fun x hx => (World.ownsRow.lt ow.1 x hx).1)
                     have P9 := P8.keep b9 (by omega)
                     have c9 := P9.c6
                     have f9 := P9.f6
                     replace g1 := ks b9 (by omega) g1
                     have g1s : (w9.setCell ⟨ga, 6, none⟩ undef).cell? ⟨w.heap.size, 1, none⟩ = w9.cell? ⟨w.heap.size, 1, none⟩ := World.cell?_setCell_other _ _ _ _ (fun h => by have := congrArg Addr.block h; simp at this; omega)
                     obtain ⟨A3, d3, hv3, -, -, -⟩ := row_form h3
                     subst hv3))
                have hr3 : OwnV (w8.alloc (.cells #[.slice A2 (D + 1 : Nat) d2, .int .i64 by1, .int .i64 nm] 62)) (ga + 1) 3 (.slice A2 (plN RK (D + 1)).length d2) (ints (plN RK (D + 1))) := by
                  rw [HLM.out]
                  exact (HOO.out.alloc _).less (by omega)
                have hmo := (ow.below (bl w8 (.cells #[.slice A2 (D + 1 : Nat) d2, .int .i64 by1, .int .i64 nm] 62))).more (r := ⟨A2, d2, plN RK (D + 1), by1, nm⟩) hg3 hr3 (by have := h3; unfold HomR.vs; rw [HLM.out]; exact this)
                have hfin : OwnH (w9.setCell ⟨ga, 6, none⟩ (.slice A3 (k + 1 : Nat) d3)) (ga + 1) (.slice A3 (k + 1 : Nat) d3) (rs ++ [⟨A2, d2, plN RK (D + 1), by1, nm⟩]) := by
                  rw [← hlk]
                  exact OwnH.cell_set hmo (by omega) _
                have bfin : Below ga w4 (w9.setCell ⟨ga, 6, none⟩ (.slice A3 (k + 1 : Nat) d3)) := (hb48.trans (b9.mono (Nat.le_succ _))).setCell (p := ⟨ga, 6, none⟩) (Nat.le_refl ga) _
                have hsz := b9.size
                have HFI := Lib.hid hfin
                have P10 := P9.set6 (.slice A3 (k + 1 : Nat) d3)
                rw [hlk] at *
                go_roundw
                case rel => exact ⟨k + 1, _, _, some ⟨br, or + (D + 6), none⟩, q - (D + 6), cK - (D + 6), by omega, by go_num, rfl, HQN.out, by omega, by omega, by rw [HDR.out]; exact HSK.out.drop (D + 6), HDN.out A2 d2, HFI.out, P10, bfin, by simp; omega⟩
                case measure => simp [RowKit.intOf]; omega
        · obtain rfl : k = Z := by omega
          obtain ⟨AH, ch, hv, -, -, -⟩ := row_form hown.1
          subst hv
          have hyo : AV.Own w5 (ga + 1) (⟨(num (b.take 4) : Int), (num ((b.drop 4).take 4) : Int), (b[16].toNat : Int), (num ((b.drop 8).take 4) : Int), (num ((b.drop 12).take 4) : Int), ⟨t.toArray⟩, AH, ch, rs⟩ : AV) := hown
          have hb1 : (num ((b.drop 16).take 1) : Int) = (b[16].toNat : Int) := by rw [List.drop_eq_getElem_cons (show 16 < b.length by omega), num_one]
          have hyd : AV.d (⟨(num (b.take 4) : Int), (num ((b.drop 4).take 4) : Int), (b[16].toNat : Int), (num ((b.drop 8).take 4) : Int), (num ((b.drop 12).take 4) : Int), ⟨t.toArray⟩, AH, ch, rs⟩ : AV) = x := by
            rw [← HXX.out, ← HRE.out, ← hrs]
            unfold ancN
            rw [hb1]
            rfl
          have hsh : HShort 1048576 rs := fun r hr => by
            have h1 := homesN_mem (D := D) (r := R) (n := k) (Nat.le_of_eq HRL2.out.symm) r.d (by rw [← hrs]; exact List.mem_map_of_mem hr)
            have h2 : r.ps.length = D + 1 := h1
            omega
          have hlr : rs.length = k := by
            have h1 := congrArg List.length hrs
            rwa [hds_length, homesN_len] at h1
          have HRA := Lib.hid (show ∀ W, Below w5.heap.size w5 W → Calls Tryd.prog 19 #[.agg #[.int .i64 k, .int .i64 D, .int .i64 s, .int .i64 l, .int .i64 a], .agg #[.int .i64 (num (b.take 4)), .int .i64 (num ((b.drop 4).take 4)), .int .i64 (b[16].toNat : Int), .int .i64 (num ((b.drop 8).take 4)), .int .i64 (num ((b.drop 12).take 4)), .string ⟨t.toArray⟩, .slice AH rs.length ch]] W fun e w' => e = .returned (.bool g) ∧ Below W.heap.size W w' from fun W hW =>
            right_p k D s l a g (⟨(num (b.take 4) : Int), (num ((b.drop 4).take 4) : Int), (b[16].toNat : Int), (num ((b.drop 8).take 4) : Int), (num ((b.drop 12).take 4) : Int), ⟨t.toArray⟩, AH, ch, rs⟩ : AV) W HO.out (hyo.inn.next hW) (by show rs.length ≤ 1048576; omega) hsh (by show (⟨t.toArray⟩ : ByteArray).size ≤ 4294967296; rw [← size_list]; show t.length ≤ _; omega) (by rw [hyd]; exact HG.out))
          have hz5 : w.heap.size + 1 < w5.heap.size := by omega
          have PZ5 := PZ4.keep hb5 (by omega)
          have GG5 := GG4.keep hb5 (by omega)
          have hb05 := hb04.trans (hb5.mono (by omega))
          have l5 : ga < w5.heap.size := by omega
          have HYD := Lib.hid hyd
          have HYO := Lib.hid hyo
          have i1 : ¬ (k : Int) < (k : Int) := by omega
          obtain ⟨g0, g1, g2, g3, g4⟩ := id GG5
          obtain ⟨a0, a1, a2, a3, a4, a5, a6, -, -, -, -, -, -, -⟩ := id P5
          clear hyd hyo hsh hrs hb1 hown hlr hq hqc hcK hsk
          cases g
          case false =>
            go_wp2_with (go_at_call 19; (with_reducible refine (HRA.out _ (Below.refl _ _)).mono ?_); rintro e w6 ⟨rfl, hb6⟩; have PZ6 := PZ5.keep hb6 hz5; obtain ⟨z0, z1, z2, z3, z4, z5, z6, f0, f1, f2, f3, f4, f5, f6⟩ := id PZ6; replace P5 := P5.keep hb6 l5; clear a0 a1 a2 a3 a4 a5 a6; obtain ⟨a0, a1, a2, a3, a4, a5, a6, -, -, -, -, -, -, -⟩ := id P5)
            have k7 := (((((((PZ6.set0 (.int .i64 0)).set1 (.int .i64 0)).set2 (.int .i64 0)).set3 (.int .i64 0)).set4 (.int .i64 0)).set5 (.string ⟨#[]⟩)).set6 (.slice none 0 0))
            exact bodyPost_ret (v := .tuple #[.agg #[.int .i64 0, .int .i64 0, .int .i64 0, .int .i64 0, .int .i64 0, .string ⟨#[]⟩, .slice none 0 0], .bool false]) (by simp [results, Tryd.results37, go_sem, k7.c0, k7.c1, k7.c2, k7.c3, k7.c4, k7.c5, k7.c6]) rfl ⟨⟨noAV, rfl, rfl, noAV_own _ _⟩, below7 (bt hb05 hb6) (Nat.le_succ _)⟩
          case true =>
            go_wp2_with (go_at_call 19; (with_reducible refine (HRA.out _ (Below.refl _ _)).mono ?_); rintro e w6 ⟨rfl, hb6⟩; have PZ6 := PZ5.keep hb6 hz5; obtain ⟨z0, z1, z2, z3, z4, z5, z6, f0, f1, f2, f3, f4, f5, f6⟩ := id PZ6; replace P5 := P5.keep hb6 l5; clear a0 a1 a2 a3 a4 a5 a6; obtain ⟨a0, a1, a2, a3, a4, a5, a6, -, -, -, -, -, -, -⟩ := id P5)
            have k7 := (((((((PZ6.set0 (.int .i64 (num (b.take 4)))).set1 (.int .i64 (num ((b.drop 4).take 4)))).set2 (.int .i64 (b[16].toNat : Int))).set3 (.int .i64 (num ((b.drop 8).take 4)))).set4 (.int .i64 (num ((b.drop 12).take 4)))).set5 (.string ⟨t.toArray⟩)).set6 (.slice AH rs.length ch))
            have hyo6 : OwnH w6 (ga + 1) (.slice AH rs.length ch) rs := OwnH.below HYO.out hb6
            have hgz : w.heap.size + 1 < ga + 1 := by omega
            have h7 := (OwnH.cell_set (o := 6) (OwnH.cell_set (o := 5) (OwnH.cell_set (o := 4) (OwnH.cell_set (o := 3) (OwnH.cell_set (o := 2) (OwnH.cell_set (o := 1) (OwnH.cell_set (o := 0) hyo6 hgz (.int .i64 (num (b.take 4)))) hgz (.int .i64 (num ((b.drop 4).take 4)))) hgz (.int .i64 (b[16].toNat : Int))) hgz (.int .i64 (num ((b.drop 8).take 4)))) hgz (.int .i64 (num ((b.drop 12).take 4)))) hgz (.string ⟨t.toArray⟩)) hgz (.slice AH rs.length ch))
            exact bodyPost_ret (v := .tuple #[.agg #[.int .i64 (num (b.take 4)), .int .i64 (num ((b.drop 4).take 4)), .int .i64 (b[16].toNat : Int), .int .i64 (num ((b.drop 8).take 4)), .int .i64 (num ((b.drop 12).take 4)), .string ⟨t.toArray⟩, .slice AH rs.length ch], .bool true]) (by simp [results, Tryd.results37, go_sem, k7.c0, k7.c1, k7.c2, k7.c3, k7.c4, k7.c5, k7.c6]) rfl ⟨⟨(⟨(num (b.take 4) : Int), (num ((b.drop 4).take 4) : Int), (b[16].toNat : Int), (num ((b.drop 8).take 4) : Int), (num ((b.drop 12).take 4) : Int), ⟨t.toArray⟩, AH, ch, rs⟩ : AV), rfl, HYD.out, OwnH.less h7 (by omega)⟩, below7 (bt hb05 hb6) (Nat.le_succ _)⟩
end Go.Proofs.YtdjleimndolonaaDoor.anc

namespace Go.Proofs.YtdjleimndolonaaDoor.anc
open Go.RowKit Go.Lib
open Go.Proofs.YtdjleimndolonaaDoor.gmt (Ok five_new)
open Go.Proofs.YtdjleimndolonaaDoor.lbl (encL readL labE lab_len)

theorem parsed_whole {Z D : Nat} {b : List UInt8} {x : Anc} (h : parsed Z D b = some (x, [])) : ∃ t, readL (b.drop 17) = some t ∧ (b.drop (18 + t.length)).length = Z * (D + 6) ∧ ancN b t (homesN D (b.drop (18 + t.length)) Z) = x := by
  unfold parsed at h
  split at h
  · cases h
  · split at h
    · cases h
    · rename_i t ht
      split at h
      · cases h
      · rename_i hr
        simp only [Option.some.injEq, Prod.mk.injEq] at h
        obtain ⟨h1, h2⟩ := h
        refine ⟨t, ht, ?_, h1⟩
        have h3 := congrArg List.length h2
        rw [List.length_drop] at h3
        simp only [List.length_nil] at h3
        omega
theorem whole_parsed {Z D : Nat} {b t : List UInt8} (h18 : 18 ≤ b.length) (ht : readL (b.drop 17) = some t) (hl : (b.drop (18 + t.length)).length = Z * (D + 6)) : parsed Z D b = some (ancN b t (homesN D (b.drop (18 + t.length)) Z), []) := by
  unfold parsed
  rw [if_neg (by omega), ht]
  simp only
  rw [if_neg (by omega), List.drop_eq_nil_of_le (Nat.le_of_eq hl)]
theorem rread_yes (z d s l a : Int) (A : Option Addr) (c n : Nat) (b : List UInt8) (x : Anc) (w : World) (ho : Ok z d s l a) (hn : b.length = n) (hA : Sl w w.heap.size A b) (hm : n ≤ c) (hmax : c ≤ maxLen) (hn3 : n ≤ 300) (hg : Good z d s l x) (hb : b = encA x) :
    Calls Tryd.prog 37 #[.agg #[.int .i64 z, .int .i64 d, .int .i64 s, .int .i64 l, .int .i64 a], .slice A n c] w fun e w' => RdQ w.heap.size x true e w' ∧ Below w.heap.size w w' := by
  obtain ⟨o1, o2, -⟩ := id ho
  have hab := good_b ho hg
  have hp := parsed_of hab []
  have hlen := encA_len hab
  obtain ⟨Z, rfl⟩ : ∃ Z : Nat, z = Z := ⟨z.toNat, by omega⟩
  obtain ⟨D, rfl⟩ : ∃ D : Nat, d = D := ⟨d.toNat, by omega⟩
  rw [List.append_nil, ← hb, Int.toNat_natCast, Int.toNat_natCast] at hp
  obtain ⟨t, h1, h2, h3⟩ := parsed_whole hp
  have h18 : 18 ≤ n := by rw [← hn, hb]; omega
  exact rread_go Z D s l a A c n b w hn h18 hA hm hmax t h1 ho h2 hn3 x h3 true (iff_of_true rfl hg)
theorem rread_not (z d s l a : Int) (A : Option Addr) (c n : Nat) (b : List UInt8) (w : World) (ho : Ok z d s l a) (hn : b.length = n) (hA : Sl w w.heap.size A b) (hm : n ≤ c) (hmax : c ≤ maxLen) (hn3 : n ≤ 300) (hg : ∀ x, Good z d s l x → b ≠ encA x) :
    Calls Tryd.prog 37 #[.agg #[.int .i64 z, .int .i64 d, .int .i64 s, .int .i64 l, .int .i64 a], .slice A n c] w fun e w' => RdQ w.heap.size noAnc false e w' ∧ Below w.heap.size w w' := by
  obtain ⟨o1, o2, -⟩ := id ho
  obtain ⟨Z, rfl⟩ : ∃ Z : Nat, z = Z := ⟨z.toNat, by omega⟩
  obtain ⟨D, rfl⟩ : ∃ D : Nat, d = D := ⟨d.toNat, by omega⟩
  by_cases h18 : n < 18
  · exact rread_short Z D s l a A c n w h18
  · cases h1 : readL (b.drop 17) with
    | none => exact rread_lab Z D s l a A c n b w hn (by omega) hA hm hmax h1
    | some t =>
      by_cases h2 : (b.drop (18 + t.length)).length = Z * (D + 6)
      · have hp := whole_parsed (Z := Z) (D := D) (by omega) h1 h2
        obtain ⟨k1, -, -, -⟩ := parsed_sound hp
        rw [List.append_nil] at k1
        exact rread_go Z D s l a A c n b w hn (by omega) hA hm hmax t h1 ho h2 hn3 _ rfl false (iff_of_false Bool.false_ne_true fun h => hg _ h k1)
      · exact rread_len Z D s l a A c n b w hn (by omega) hA hm hmax t h1 ho h2
end Go.Proofs.YtdjleimndolonaaDoor.anc
