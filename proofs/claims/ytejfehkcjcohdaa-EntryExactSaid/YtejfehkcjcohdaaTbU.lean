/-
  The document's bytes of a table. Conditions: entries that are right.
-/
import Derived.Test.YtejfehkcjcohdaaTbR
import Derived.Test.YtejfehkcjcohdaaPkD
namespace Go.Proofs.Ytejfehkcjcohdaa.tbl
open Go.RowKit Go.Lib
open Go.Proofs.Ytejfehkcjcohdaa.gmt (Ok five_new)
open Go.Proofs.Ytejfehkcjcohdaa.pck (le num le_length ref_put ref_get)
open Go.Proofs.Ytejfehkcjcohdaa.anc (flat_get flat_len slv_cell bl kal kst ks bm ka take_same take_other row_form row_below)

/-- Bytes of one's own, q of them. -/
def BytQ (base q : Nat) (l : List UInt8) (e : Ending) (w' : World) : Prop := ∃ (X : Option Addr) (c : Nat), e = .returned (.slice X q c) ∧ l.length = q ∧ Own w' base 5 (.slice X q c) l
theorem own_sl {W : World} {base q x : Nat} {e : TypeId} {X : Option Addr} {l : List UInt8} (h : Own W base e (.slice X q x) l) : Sl W W.heap.size X l := by
  obtain ⟨A, c, hv, -, -, hs, -⟩ := h.form
  simp only [Value.slice.injEq] at hv
  rw [hv.1]
  exact hs
set_option maxRecDepth 100000 in
set_option maxHeartbeats 4000000 in
theorem rput_q (k : Nat) (m : Int) (n q : Nat) (A : Option Addr) (c : Nat) (l : List UInt8) (w : World) (hk : k ≤ 8) (h0 : 0 ≤ m) (hm : m ≤ 4294967295) (hln : l.length = n) (hl : n ≤ 1048576) (hq : n + k = q) (hA : Sl w w.heap.size A l) :
    Calls Try.prog 39 #[.slice A n c, .int .i64 m, .int .i64 k] w fun e w' => BytQ w.heap.size q (l ++ le k m.toNat) e w' ∧ Below w.heap.size w w' := by
  have h9 := ref_put k m.toNat n A c l w hk (by omega) hln hl hA
  rw [Int.toNat_of_nonneg h0] at h9
  refine h9.mono ?_
  rintro e w' ⟨⟨v, rfl, ho⟩, hb⟩
  obtain ⟨X, c2, hv, -, -, -, -⟩ := id ho.form
  have hl2 : (l ++ le k m.toNat).length = q := by rw [List.length_append, le_length]; omega
  rw [hl2] at hv
  subst hv
  exact ⟨⟨X, c2, rfl, hl2, ho⟩, hb⟩
set_option maxRecDepth 100000 in
set_option maxHeartbeats 4000000 in
theorem rbytes_tab (x : TV) (n q : Nat) (w : World) (hx : x.In w w.heap.size) (h1 : x.es.length = n) (hn : n ≤ 20) (hok : ∀ e ∈ x.es, EntOk e) (hq : n * 9 = q) :
    Calls Try.prog 23 #[x.v] w fun e w' => BytQ w.heap.size q (encT x.es) e w' ∧ Below w.heap.size w w' := by
  have T1 := c1_new w (.slice x.A n x.c) 36
  have hb := bl w (.cells #[.slice x.A n x.c] 36)
  have l1 : (w.alloc (.cells #[.slice x.A n x.c] 36)).heap.size = w.heap.size + 1 := by simp
  unfold TV.v
  rw [h1]
  have HL := Lib.hid h1
  have HX := Lib.hid hx
  have HOK := Lib.hid hok
  have HQ := Lib.hid hq
  clear h1 hx hok hq
  go_enter Try.func23, Try.ntmps23
  go_upto_region 1 with fail
  generalize w.alloc (.cells #[.slice x.A n x.c] 36) = w0 at *
  have lz : w.heap.size + 1 ≤ w0.heap.size := by omega
  clear l1
  go_wp2_with fail
  go_loopw [3, 4] (fun vb i w' => ∃ (k : Nat), k ≤ n ∧ i = .int .i64 k ∧ Own w' (w.heap.size + 1) 5 vb (encT (x.es.take k)) ∧ Below (w.heap.size + 1) w0 w') (fun _ i _ => n - (RowKit.intOf i).toNat)
  case atStart => exact ⟨0, Nat.zero_le _, rfl, own_nil _ _ _, Below.refl _ _⟩
  case round =>
    obtain ⟨w5, rfl⟩ : ∃ x, x = wr := ⟨wr, rfl⟩
    obtain ⟨k, hk, rfl, hown, hbr⟩ := hrel
    have hb5 := hb.trans (hbr.mono (by omega))
    have l5 := hbr.size
    have t0 := (T1.keep hbr (by omega)).c0
    by_cases hlt : k < n
    · obtain ⟨b1, off, u, hA1, hb1, c0, c1, c2, hu, e1⟩ := ent_at (HX.out.below hb5).h (show k < x.es.length by rw [HL.out]; omega)
      have HU := Lib.hid (HOK.out u hu)
      have HE := Lib.hid (encT_next e1)
      have hlk : (encT (x.es.take k)).length = k * 9 := by rw [encT_length, List.length_take, HL.out]; omega
      have HLK := Lib.hid hlk
      rw [hA1] at t0
      obtain ⟨X, cx, hvx, hx1, hx2, hxs, -⟩ := id hown.form
      rw [hlk] at hvx
      subst hvx
      have i1 : (k : Int) < (n : Int) := by omega
      have P := anc.tri_new w5 (.int .i64 u.st) (.int .i64 u.sm) (.bool u.ls) 29
      have b6 := bl w5 (.cells #[.int .i64 u.st, .int .i64 u.sm, .bool u.ls] 29)
      have hxs6 := (hxs.below b6).more b6.size
      have ge0 : w5.heap.size < (w5.alloc (.cells #[.int .i64 u.st, .int .i64 u.sm, .bool u.ls] 29)).heap.size := by simp
      have HP1 := Lib.hid (show ∀ W, Below w5.heap.size w5 W → Calls Try.prog 39 #[.slice X (k * 9 : Nat) cx, .int .i64 u.st, .int .i64 4] W fun e w' => BytQ W.heap.size (k * 9 + 4) (encT (x.es.take k) ++ le 4 u.st.toNat) e w' ∧ Below W.heap.size W w' from fun W hW => rput_q 4 u.st (k * 9) _ X cx _ W (by omega) HU.out.1.1 HU.out.1.2 HLK.out (by omega) rfl ((hxs.below hW).more hW.size))
      have HP2 := Lib.hid (show ∀ (W : World) (Y : Option Addr) (y : Nat), Sl W W.heap.size Y (encT (x.es.take k) ++ le 4 u.st.toNat) → Calls Try.prog 39 #[.slice Y (k * 9 + 4 : Nat) y, .int .i64 u.sm, .int .i64 4] W fun e w' => BytQ W.heap.size (k * 9 + 8) ((encT (x.es.take k) ++ le 4 u.st.toNat) ++ le 4 u.sm.toNat) e w' ∧ Below W.heap.size W w' from fun W Y y h => rput_q 4 u.sm (k * 9 + 4) _ Y y _ W (by omega) HU.out.2.1 HU.out.2.2 (by rw [List.length_append, le_length, HLK.out]) (by omega) rfl h)
      have HP3 := Lib.hid (show ∀ (j : Int) (W : World) (Y : Option Addr) (y : Nat), j = (lsN u.ls : Nat) → Sl W W.heap.size Y ((encT (x.es.take k) ++ le 4 u.st.toNat) ++ le 4 u.sm.toNat) → Calls Try.prog 39 #[.slice Y (k * 9 + 8 : Nat) y, .int .i64 j, .int .i64 1] W fun e w' => BytQ W.heap.size ((k + 1) * 9) (encT (x.es.take (k + 1))) e w' ∧ Below W.heap.size W w' from fun j W Y y hj h => by
        have hj1 := lsN_le u.ls
        have h9 := rput_q 1 j (k * 9 + 8) ((k + 1) * 9) Y y _ W (by omega) (by omega) (by omega) (by rw [List.length_append, List.length_append, le_length, le_length, HLK.out]) (by omega) (by omega) h
        have hjn : j.toNat = lsN u.ls := by omega
        rw [hjn] at h9
        rw [HE.out]
        have hee : encT (x.es.take k) ++ entB u = ((encT (x.es.take k) ++ le 4 u.st.toNat) ++ le 4 u.sm.toNat) ++ le 1 (lsN u.ls) := by unfold entB; simp only [List.append_assoc]
        rw [hee]
        exact h9)
      clear hown hxs hxs6 hu e1 hA1 hlk hx1 hx2
      go_upto_region 6 with fail
      obtain ⟨ge, hge⟩ : ∃ g, g = w5.heap.size := ⟨_, rfl⟩
      rw [← hge] at P ge0 ⊢
      generalize hw6 : w5.alloc (.cells #[.int .i64 u.st, .int .i64 u.sm, .bool u.ls] 29) = w6 at *
      have lge : w5.heap.size ≤ ge := by omega
      clear hw6 hge c0 c1 c2
      obtain ⟨q0, q1, q2, -, -, -⟩ := id P
      have HF := Lib.hid (show ∀ W, Below w6.heap.size w6 W → W.cell? ⟨ge, 0, none⟩ = some (.int .i64 u.st) ∧ W.cell? ⟨ge, 1, none⟩ = some (.int .i64 u.sm) ∧ Below w6.heap.size w6 W from fun W h => ⟨kst h ge0 q0, kst h ge0 q1, h⟩)
      go_region_held3 (fun W => W.cell? ⟨ge, 0, none⟩ = some (.int .i64 u.st) ∧ W.cell? ⟨ge, 1, none⟩ = some (.int .i64 u.sm) ∧ Below w6.heap.size w6 W)
        ((refine HF.out _ ?_; first
          | with_reducible exact hb8
          | with_reducible exact hb7
          | with_reducible exact below_dr (Below.refl _ _)
          | fail))
        (first
          | (go_at_call 39; (with_reducible refine (HP1.out _ (bt b6 (below_dr (Below.refl _ _)))).mono ?_); rintro e' w7 ⟨⟨Y1, y1, rfl, -, o1⟩, hbq⟩; have hb7 := bt (below_dr (Below.refl w6.heap.size w6)) hbq; clear hbq)
          | (go_at_call 39; (with_reducible refine (HP2.out _ _ _ (own_sl o1)).mono ?_); rintro e' w8 ⟨⟨Y2, y2, rfl, -, o2⟩, hbq⟩; have hb8 := bt hb7 hbq; clear hbq)
          | fail)
      have q2' := kst hb8 ge0 q2
      have b9 := bt b6 hb8
      have sl2 := own_sl o2
      have HQ2 := Lib.hid q2'
      clear q0 q1 q2 HF HP1 HP2 o1 o2 P
      have hls : u.ls = false ∨ u.ls = true := by cases u.ls <;> simp
      rcases hls with hl0 | hl0
      · have HPA := Lib.hid (HP3.out 0 w8 Y2 y2 (by rw [hl0]; rfl) sl2)
        rw [hl0] at q2'
        clear HP3 hl0 HQ2 sl2
        go_wp2_with (go_at_call 39; (with_reducible refine HPA.out.mono ?_); rintro e' wq ⟨⟨Y3, y3, rfl, -, o3⟩, hbq⟩)
        have b10 := hbr.trans ((bt b9 hbq).mono (by omega))
        go_roundw
        case rel => exact ⟨k + 1, by omega, by go_num, o3.less (by have := b9.size; omega), b10⟩
        case measure => simp [RowKit.intOf]; omega
      · have HPA := Lib.hid (HP3.out 1 w8 Y2 y2 (by rw [hl0]; rfl) sl2)
        rw [hl0] at q2'
        clear HP3 hl0 HQ2 sl2
        go_wp2_with (go_at_call 39; (with_reducible refine HPA.out.mono ?_); rintro e' wq ⟨⟨Y3, y3, rfl, -, o3⟩, hbq⟩)
        have b10 := hbr.trans ((bt b9 hbq).mono (by omega))
        go_roundw
        case rel => exact ⟨k + 1, by omega, by go_num, o3.less (by have := b9.size; omega), b10⟩
        case measure => simp [RowKit.intOf]; omega
    · obtain rfl : k = n := by omega
      have i1 : ¬ (k : Int) < (k : Int) := by omega
      have he : encT (x.es.take k) = encT x.es := by rw [List.take_of_length_le (by rw [HL.out]; omega)]
      rw [he] at hown
      have hlq : (encT x.es).length = q := by rw [encT_length, HL.out]; exact HQ.out
      obtain ⟨X, cx, hvx, -, -, -, -⟩ := id hown.form
      rw [hlq] at hvx
      subst hvx
      have HO := Lib.hid hown
      have HLQ := Lib.hid hlq
      clear he hown hlq
      go_wp2_with fail
      go_ret
      exact ⟨⟨X, cx, rfl, HLQ.out, HO.out.less (by omega)⟩, hb5⟩
end Go.Proofs.Ytejfehkcjcohdaa.tbl
