/-
  The law PackRows, walked: it returns true for every input. No condition.
-/
import Derived.Test.YtpkbfhpcadjglaaPkLawB
namespace Go.Proofs.Ytpkbfhpcadjglaa.pck
open Go.RowKit Go.Lib
open Classical

theorem AllFit.tail {p : Int × Int} {ps : List (Int × Int)} (h : AllFit (p :: ps)) : AllFit ps := fun q hq => h q (List.mem_cons_of_mem _ hq)
theorem bytesOf_cons (p : Int × Int) (ps : List (Int × Int)) : bytesOf (p :: ps) = le p.2.toNat p.1.toNat ++ bytesOf ps := by simp [bytesOf]
theorem bytesOf_none {ps : List (Int × Int)} (h : AllFit ps) (h0 : (bytesOf ps).length = 0) : ps = [] := by
  cases ps with
  | nil => rfl
  | cons p ps =>
    obtain ⟨k, m, hs, -, hk, -⟩ := h p List.mem_cons_self
    rw [bytesOf_cons, List.length_append, le_length, hs, Int.toNat_natCast] at h0
    have := hk.pos
    omega
/-- What was put in rows is got, and what stands behind it. -/
theorem unrow_back (ps : List (Int × Int)) (more : List UInt8) (h : AllFit ps) : unrow (ps.map (·.2)) (bytesOf ps ++ more) = .ok (ps.map (·.1), more) := by
  induction ps with
  | nil => rfl
  | cons p ps ih =>
    obtain ⟨k, m, hs, hx, hk, hm⟩ := h p List.mem_cons_self
    obtain ⟨x, s⟩ := p
    simp only at hs hx
    subst hs hx
    have hz : (k : Int) = 1 ∨ (k : Int) = 2 ∨ (k : Int) = 4 := by unfold Sz at hk; omega
    rw [bytesOf_cons, List.append_assoc, List.map_cons, List.map_cons, unrow, if_pos hz, Int.toNat_natCast, Int.toNat_natCast]
    have hl : ¬ (le k m ++ (bytesOf ps ++ more)).length < k := by rw [List.length_append, le_length]; omega
    have ht : (le k m ++ (bytesOf ps ++ more)).take k = le k m := by
      have := List.take_left (l₁ := le k m) (l₂ := bytesOf ps ++ more)
      rwa [le_length] at this
    have hd : (le k m ++ (bytesOf ps ++ more)).drop k = bytesOf ps ++ more := by
      have := List.drop_left (l₁ := le k m) (l₂ := bytesOf ps ++ more)
      rwa [le_length] at this
    rw [if_neg hl, ht, hd, ih h.tail, num_le k m hm]
/-- One byte short, it is not. -/
theorem unrow_short (ps : List (Int × Int)) (n : Nat) (h : AllFit ps) (hn : (bytesOf ps).length = n + 1) : unrow (ps.map (·.2)) ((bytesOf ps).take n) = .error 4 := by
  induction ps generalizing n with
  | nil => simp [bytesOf] at hn
  | cons p ps ih =>
    obtain ⟨k, m, hs, hx, hk, hm⟩ := h p List.mem_cons_self
    obtain ⟨x, s⟩ := p
    simp only at hs hx
    subst hs hx
    have hz : (k : Int) = 1 ∨ (k : Int) = 2 ∨ (k : Int) = 4 := by unfold Sz at hk; omega
    have hp := hk.pos
    rw [bytesOf_cons, Int.toNat_natCast, Int.toNat_natCast] at hn ⊢
    rw [List.map_cons, unrow, if_pos hz, Int.toNat_natCast]
    rw [List.length_append, le_length] at hn
    by_cases h0 : (bytesOf ps).length = 0
    · rw [if_pos (by rw [List.length_take, List.length_append, le_length]; omega)]
    · have hl : ¬ ((le k m ++ bytesOf ps).take n).length < k := by rw [List.length_take, List.length_append, le_length]; omega
      have hd : ((le k m ++ bytesOf ps).take n).drop k = (bytesOf ps).take (n - k) := by
        rw [List.drop_take]
        have := List.drop_left (l₁ := le k m) (l₂ := bytesOf ps)
        rw [le_length] at this
        rw [this]
      rw [if_neg hl, hd, ih (n - k) h.tail (by omega)]

theorem ref_fits (n s : Int) (w : World) : Calls Try.prog 13 #[.int .i64 n, .int .i64 s] w fun e w' => e = .returned (.bool (decide (Fits n s))) ∧ w = w' := by
  by_cases h : Fits n s
  · rw [decide_eq_true h]
    obtain ⟨k, m, rfl, rfl, hk, hm⟩ := h
    exact ref_fits_ok k m w hk hm
  · rw [decide_eq_false h]
    exact ref_fits_no n s w h
theorem rows_out (A A' A'' : Option Addr) (c c' c'' m n q : Nat) (w : World) (h : 60 < m ∨ 60 < n ∨ 60 < q) :
    Calls Try.prog 4 #[.slice A m c, .slice A' n c', .slice A'' q c''] w fun e w' => e = .returned (.bool true) ∧ Below w.heap.size w w' := by
  by_cases h1 : 60 < m
  · have i1 : (60 : Int) < (m : Int) := by omega
    clear h
    go_enter Try.func4, Try.ntmps4
    go_wp2
    go_ret
    exact ⟨rfl, Below.refl _ _⟩
  · have i1 : ¬ (60 : Int) < (m : Int) := by omega
    by_cases h2 : 60 < n
    · have i2 : (60 : Int) < (n : Int) := by omega
      clear h
      go_enter Try.func4, Try.ntmps4
      go_wp2
      go_ret
      exact ⟨rfl, Below.refl _ _⟩
    · have i2 : ¬ (60 : Int) < (n : Int) := by omega
      have i3 : (60 : Int) < (q : Int) := by omega
      clear h
      go_enter Try.func4, Try.ntmps4
      go_wp2
      go_ret
      exact ⟨rfl, Below.refl _ _⟩
theorem rows_len (A A' A'' : Option Addr) (c c' c'' m n q : Nat) (w : World) (h1 : m ≤ 60) (h2 : n ≤ 60) (h3 : q ≤ 60) (h : m ≠ n) :
    Calls Try.prog 4 #[.slice A m c, .slice A' n c', .slice A'' q c''] w fun e w' => e = .returned (.bool true) ∧ Below w.heap.size w w' := by
  have c1 := row_len m n A A' c c' w h
  have i1 : ¬ (60 : Int) < (m : Int) := by omega
  have i2 : ¬ (60 : Int) < (n : Int) := by omega
  have i3 : ¬ (60 : Int) < (q : Int) := by omega
  have n1 : ((m : Int) == (n : Int)) = false := beq_eq_false_iff_ne.2 (by omega)
  have n2 : ((m : Int) != (n : Int)) = true := bne_iff_ne.2 (by omega)
  have n3 : (m == n) = false := beq_eq_false_iff_ne.2 h
  have n4 : (m != n) = true := bne_iff_ne.2 h
  go_enter Try.func4, Try.ntmps4
  go_wp2_with (first
    | (go_at_call 19; (with_reducible refine c1.mono ?_); rintro e w1 ⟨rfl, rfl⟩)
    | (go_at_call 18; (with_reducible refine (wakes_any _).mono ?_); rintro e w2 ⟨rfl, hb2⟩))
  go_ret
  exact ⟨rfl, hb2⟩

set_option maxHeartbeats 4000000 in
theorem rows_not (A A' A'' : Option Addr) (c c' c'' n q : Nat) (ps : List (Int × Int)) (w : World) (hn : ps.length = n) (h1 : n ≤ 60) (h3 : q ≤ 60) (hf : ¬ AllFit ps) (hA : SlV w w.heap.size A (ints (ps.map (·.1)))) (hA' : SlV w w.heap.size A' (ints (ps.map (·.2)))) :
    Calls Try.prog 4 #[.slice A n c, .slice A' n c', .slice A'' q c''] w fun e w' => e = .returned (.bool true) ∧ Below w.heap.size w w' := by
  have c1 := row_any n A A' c c' ps w hn (by omega) hA hA'
  have i1 : ¬ (60 : Int) < (n : Int) := by omega
  have i3 : ¬ (60 : Int) < (q : Int) := by omega
  have n1 : ((n : Int) != (n : Int)) = false := bne_self_eq_false _
  have c1' : Calls Try.prog 19 #[.slice A n c, .slice A' n c'] w fun e w' => e = .returned (.tuple #[.slice none 0 0, .int .i64 1]) ∧ Below w.heap.size w w' := c1.mono fun e w' hh => ⟨(hh.1.resolve_left fun k => hf k.1).2, hh.2⟩
  have HF : Hid (¬ AllFit ps ∧ n ≤ 60) := ⟨hf, h1⟩
  clear c1 hf
  go_enter Try.func4, Try.ntmps4
  go_wp2_with (first
    | (go_at_call 19; (with_reducible refine c1'.mono ?_); rintro e w1 ⟨rfl, hb1⟩))
  go_loopw [9, 10, 11] (fun x b i w' => ∃ (k y : Nat) (o : Bool), k ≤ n ∧ y ≤ 4 * k ∧ i = .int .i64 k ∧ x = .int .i64 y ∧ b = .bool o ∧ (o = true → AllFit (ps.take k)) ∧ Below w.heap.size w w') (fun _ _ i _ => n - (RowKit.intOf i).toNat)
  case atStart => exact ⟨0, 0, true, by omega, by omega, rfl, rfl, rfl, fun _ p hp => by simp at hp, hb1⟩
  case round =>
    rename_i wr
    obtain ⟨k, y, o, hk, hy, rfl, rfl, rfl, ho, hbr⟩ := hrel
    by_cases hlt : k < n
    · have i4 : (k : Int) < (n : Int) := by omega
      cases o with
      | false =>
        clear ho
        go_wp2
        go_quiet (fail)
        go_wp2
        go_roundw
        case rel => exact ⟨k + 1, y, false, by omega, by omega, by go_num, rfl, rfl, fun hh => (by cases hh), below_dn hbr _⟩
        case measure => simp [RowKit.intOf] <;> omega
      | true =>
        have hall := ho rfl
        obtain ⟨b1, off, rfl, hb, hc⟩ := (hA.below hbr) (by rw [ints_length, List.length_map]; omega)
        obtain ⟨b2, off', rfl, hb', hc'⟩ := (hA'.below hbr) (by rw [ints_length, List.length_map]; omega)
        have g := hc k (by rw [ints_length, List.length_map]; omega)
        have g' := hc' k (by rw [ints_length, List.length_map]; omega)
        rw [ints_get, List.getElem_map] at g g'
        have hkp : k < ps.length := by omega
        have ht := List.take_succ_eq_append_getElem hkp
        generalize ps[k] = p at *
        obtain ⟨u, s⟩ := p
        simp only at g g'
        have HT : Hid (Fits u s → AllFit (ps.take (k + 1))) := fun hfit => by
          rw [ht]
          intro z hz
          rcases List.mem_append.1 hz with hz | hz
          · exact hall z hz
          · rw [List.mem_singleton] at hz
            subst hz
            exact hfit
        clear hc hc' ht hall ho hA hA' hn
        by_cases hfit : Fits u s
        · have cF := fun W => ref_fits u s W
          rw [decide_eq_true hfit] at cF
          have HT2 := Lib.hid (HT.out hfit)
          obtain ⟨z, m, rfl, rfl, hz, -⟩ := hfit
          have hz4 := hz.le4
          have hz1 := hz.pos
          clear hz
          go_wp2
          go_region_held3 (fun W => Below wr.heap.size wr W ∧ W.cell? ⟨b1, off + k, none⟩ = some (.int .i64 m) ∧ W.cell? ⟨b2, off' + k, none⟩ = some (.int .i64 z))
            (first | assumption | exact ⟨Below.refl _ _, by assumption, by assumption⟩ | (go_split_ands; exact ⟨by first | assumption | exact (Below.refl _ _).drew | exact below_dr (by assumption), by assumption, by assumption⟩))
            (first | (go_at_call 13; (with_reducible refine (cF _).mono ?_); rintro e wz ⟨rfl, rfl⟩))
          all_goals
            have g1 : wr.drew.cell? ⟨b2, off' + k, none⟩ = some (.int .i64 z) := g'
            go_wp2
            go_roundw
            case rel => exact ⟨k + 1, y + z, true, by omega, by omega, by go_num, by go_num, rfl, fun _ => HT2.out, below_dr hbr⟩
            case measure => simp [RowKit.intOf] <;> omega
        · have cF := fun W => ref_fits u s W
          rw [decide_eq_false hfit] at cF
          clear hfit HT
          go_wp2
          go_region_held3 (fun W => Below wr.heap.size wr W ∧ W.cell? ⟨b1, off + k, none⟩ = some (.int .i64 u) ∧ W.cell? ⟨b2, off' + k, none⟩ = some (.int .i64 s))
            (first | assumption | exact ⟨Below.refl _ _, by assumption, by assumption⟩ | (go_split_ands; exact ⟨by first | assumption | exact (Below.refl _ _).drew | exact below_dr (by assumption), by assumption, by assumption⟩))
            (first | (go_at_call 13; (with_reducible refine (cF _).mono ?_); rintro e wz ⟨rfl, rfl⟩))
          all_goals
            go_wp2
            go_roundw
            case rel => exact ⟨k + 1, y, false, by omega, by omega, by go_num, rfl, rfl, fun hh => (by cases hh), below_dr hbr⟩
            case measure => simp [RowKit.intOf] <;> omega
    · have i4 : ¬ (k : Int) < (n : Int) := by omega
      cases o with
      | true =>
        rw [List.take_of_length_le (by omega)] at ho
        exact absurd (ho rfl) HF.out.1
      | false =>
        clear ho hA hA' hn
        go_wp2_with (first
          | (go_at_call 18; (with_reducible refine (wakes_any _).mono ?_); rintro e w9 ⟨rfl, hb9⟩))
        go_ret
        exact ⟨rfl, bt hbr hb9⟩

set_option maxHeartbeats 4000000 in
theorem rows_ok (A A' A'' : Option Addr) (c c' c'' n q : Nat) (ps : List (Int × Int)) (more : List UInt8) (w : World) (hn : ps.length = n) (hq : more.length = q) (h1 : n ≤ 60) (h3 : q ≤ 60) (hf : AllFit ps) (hA : SlV w w.heap.size A (ints (ps.map (·.1)))) (hA' : SlV w w.heap.size A' (ints (ps.map (·.2)))) (hM : Sl w w.heap.size A'' more) :
    Calls Try.prog 4 #[.slice A n c, .slice A' n c', .slice A'' q c''] w fun e w' => e = .returned (.bool true) ∧ Below w.heap.size w w' := by
  have c1 := row_any n A A' c c' ps w hn (by omega) hA hA'
  have i1 : ¬ (60 : Int) < (n : Int) := by omega
  have i3 : ¬ (60 : Int) < (q : Int) := by omega
  have n1 : ((n : Int) != (n : Int)) = false := bne_self_eq_false _
  have c1' : Calls Try.prog 19 #[.slice A n c, .slice A' n c'] w fun e w' => Put w.heap.size (bytesOf ps) e w' ∧ Below w.heap.size w w' := c1.mono fun e w' hh => ⟨(hh.1.resolve_right fun k => k.1 hf).2, hh.2⟩
  have hle := bytesOf_le hf
  have hub := unrow_back ps more hf
  have hus := unrow_short ps
  have HF : Hid (n ≤ 60 ∧ (bytesOf ps).length ≤ 240) := ⟨h1, by omega⟩
  have hms : (ps.map (·.2)).length = n := by rw [List.length_map, hn]
  have hmf : (ps.map (·.1)).length = n := by rw [List.length_map, hn]
  have hsrc : ∀ W, Below w.heap.size w W → Src Try.prog 1 22 (.slice A'' q c'') more.length (cells8 more) W := fun W hW => by
    subst hq
    exact (hM.below hW).src Try.underlying22 c''
  have cM := fun (W : World) (X : Option Addr) (x : Nat) (hW : Below w.heap.size w W) (hX : Sl W W.heap.size X more) => same_any q X A'' x c'' more W hq hX ((hM.below hW).more hW.size) (by omega)
  have cT := fun (W : World) (X : Option Addr) (x : Nat) (hX : Sl W W.heap.size X (bytesOf ps)) => twin_len X x W.heap.size (bytesOf ps).length (bytesOf ps) W rfl hX (by omega)
  have cU : ∀ (W : World) (X : Option Addr) (x : Nat), Below w.heap.size w W → Sl W W.heap.size X (bytesOf ps ++ more) → (bytesOf ps).length + q ≤ x → x ≤ maxLen → Calls Try.prog 20 #[.slice X ((bytesOf ps).length + q : Nat) x, .slice A' n c'] W fun e w' => Unrowed W.heap.size (.ok (ps.map (·.1), more)) e w' ∧ Below W.heap.size W w' := fun W X x hW hX h5 h6 => by
    have := unrow_any ((bytesOf ps).length + q) n X A' x c' (bytesOf ps ++ more) (ps.map (·.2)) W (by rw [List.length_append, hq]) hms (by omega) h5 h6 (by omega) hX ((hA'.below hW).more hW.size)
    rwa [hub] at this
  have cS : ∀ (W : World) (X : Option Addr) (x N : Nat), Below w.heap.size w W → Sl W W.heap.size X (bytesOf ps) → (bytesOf ps).length = N + 1 → N ≤ x → x ≤ maxLen → Calls Try.prog 20 #[.slice X N x, .slice A' n c'] W fun e w' => e = .returned (.tuple #[.slice none 0 0, .slice none 0 0, .int .i64 4]) ∧ Below W.heap.size W w' := fun W X x N hW hX hN h5 h6 => by
    have := unrow_any N n X A' x c' ((bytesOf ps).take N) (ps.map (·.2)) W (by rw [List.length_take, hN]; omega) hms (by omega) h5 h6 (by omega) (hX.take N) ((hA'.below hW).more hW.size)
    rwa [hus N hf hN] at this
  have cI := fun (W : World) (X : Option Addr) (x : Nat) (hW : Below w.heap.size w W) (hX : SlV W W.heap.size X (ints (ps.map (·.1)))) => ints_any X A x c W.heap.size W.heap.size n n (ps.map (·.1)) (ps.map (·.1)) W hmf hmf hX ((hA.below hW).more hW.size) (Nat.le_refl _) (Nat.le_refl _) (by omega)
  simp only [decide_true] at cI
  have HQ := Lib.hid hq
  have HM1 := Lib.hid hmf
  clear c1 hub hus hM hle h1 hq hms hmf
  go_enter Try.func4, Try.ntmps4
  go_wp2_with (first
    | (go_at_call 19; (with_reducible refine c1'.mono ?_); rintro e w1 ⟨⟨v1, rfl, hown1⟩, hb1⟩))
  clear c1'
  go_loopw [9, 10, 11] (fun x b i w' => ∃ (k : Nat), k ≤ n ∧ i = .int .i64 k ∧ x = .int .i64 ((bytesOf (ps.take k)).length : Nat) ∧ b = .bool true ∧ Below w1.heap.size w1 w') (fun _ _ i _ => n - (RowKit.intOf i).toNat)
  case atStart => exact ⟨0, by omega, rfl, rfl, rfl, Below.refl _ _⟩
  case round =>
    rename_i wr
    obtain ⟨k, hk, rfl, rfl, rfl, hbr'⟩ := hrel
    have hbr := bt hb1 hbr'
    by_cases hlt : k < n
    · have i4 : (k : Int) < (n : Int) := by omega
      obtain ⟨b1, off, rfl, hb, hc⟩ := (hA.below hbr) (by rw [ints_length, List.length_map]; omega)
      obtain ⟨b2, off', rfl, hb', hc'⟩ := (hA'.below hbr) (by rw [ints_length, List.length_map]; omega)
      have g := hc k (by rw [ints_length, List.length_map]; omega)
      have g' := hc' k (by rw [ints_length, List.length_map]; omega)
      rw [ints_get, List.getElem_map] at g g'
      have hkp : k < ps.length := by omega
      have ht := List.take_succ_eq_append_getElem hkp
      have hfit := hf _ (List.getElem_mem hkp)
      have hle := bytesOf_le (ps := ps.take k) (fun p hp => hf p (List.mem_of_mem_take hp))
      rw [List.length_take] at hle
      generalize ps[k] = p at *
      obtain ⟨u, s⟩ := p
      simp only at g g' hfit
      have cF := fun W => ref_fits u s W
      rw [decide_eq_true hfit] at cF
      obtain ⟨z, m, rfl, rfl, hz, -⟩ := hfit
      have hz4 := hz.le4
      have HT : Hid ((bytesOf (ps.take (k + 1))).length = (bytesOf (ps.take k)).length + z) := by
        show _ = _
        rw [ht, bytesOf_append, List.length_append]
        simp [bytesOf, le_length]
      generalize (bytesOf (ps.take k)).length = y at *
      have hy : y ≤ 240 := by omega
      clear hz hc hc' ht hA hA' hn cM cT cU cS cI hsrc hle hf hkp
      go_wp2
      go_region_held3 (fun W => Below wr.heap.size wr W ∧ W.cell? ⟨b1, off + k, none⟩ = some (.int .i64 m) ∧ W.cell? ⟨b2, off' + k, none⟩ = some (.int .i64 z))
        (first | assumption | exact ⟨Below.refl _ _, by assumption, by assumption⟩ | (go_split_ands; exact ⟨by first | assumption | exact (Below.refl _ _).drew | exact below_dr (by assumption), by assumption, by assumption⟩))
        (first | (go_at_call 13; (with_reducible refine (cF _).mono ?_); rintro e wz ⟨rfl, rfl⟩))
      all_goals
        have g1 : wr.drew.cell? ⟨b2, off' + k, none⟩ = some (.int .i64 z) := g'
        go_wp2
        go_roundw
        case rel => exact ⟨k + 1, by omega, by go_num, by rw [HT.out]; go_num, rfl, below_dr hbr'⟩
        case measure => simp [RowKit.intOf] <;> omega
    · have i4 : ¬ (k : Int) < (n : Int) := by omega
      rw [List.take_of_length_le (by omega)]
      have hown2 := hown1.below hbr'
      obtain ⟨X2, x2, rfl, hx1, hx2, hs2, -⟩ := hown2.form
      clear hA hA' hn hown1 hbr' hb1 hf hlt
      generalize bytesOf ps = bs at *
      have n2 : ((bs.length : Int) != (bs.length : Int)) = false := bne_self_eq_false _
      by_cases h0 : bs.length = 0
      · have z0 : ((bs.length : Int) == 0) = true := by rw [h0]; rfl
        clear cS h0
        go_wp2_with (first
          | (go_at_call 7; (with_reducible refine (cT _ _ _ hs2).mono ?_); rintro e w3 ⟨⟨v3, rfl, hown3⟩, hb3⟩; have hb13 := bt hbr hb3)
          | (at_builtin
             refine wpList_app8 _ rfl (.tmp 91) (.tmp 92) _ _ rfl wr.heap.size 5 t8 v3 bs rfl hown3 _ more rfl (hsrc _ hb13) ?_ ?_ ?_
             · rw [HQ.out]; have := HF.out; omega
             · exact hb3.size
             intro v4 w4 hown4 hg4 hat4
             have hbr4 := hb3.grown hg4 hb3.size (own_far hown3)
             have hb14 := bt hbr hbr4
             have hs24 := hs2.next hbr4
             obtain ⟨X4, z4, hv4, hq4, hx4, hs4, -⟩ := hown4.form
             rw [List.length_append, HQ.out] at hv4 hq4
             subst hv4)
          | (go_at_call 20
             (with_reducible refine (cU _ _ _ hb14 hs4 hq4 hx4).mono ?_)
             rintro e w5 ⟨⟨v5, u5, rfl, hown5, hown6⟩, hb5⟩
             have hb15 := bt hb14 hb5
             have hs25 := hs24.next hb5
             obtain ⟨X5, z5, hv5, -, -, hs5, -⟩ := hown5.form
             rw [ints_length, HM1.out] at hv5
             subst hv5
             obtain ⟨X6, z6, hv6, -, -, hs6, -⟩ := hown6.form
             rw [HQ.out] at hv6
             subst hv6)
          | (go_at_call 21; (with_reducible refine (cI _ _ _ hb15 hs5).mono ?_); rintro e w6 ⟨rfl, hb6⟩; have hb16 := bt hb15 hb6; have hs66 := hs6.next hb6; have hs26 := hs25.next hb6)
          | (go_at_call 12; (with_reducible refine (cM _ _ _ hb16 hs66).mono ?_); rintro e w7 ⟨rfl, hb7⟩; have hb17 := bt hb16 hb7; have hs27 := hs26.next hb7)
          | (go_at_call 18; (with_reducible refine (wakes_any _).mono ?_); rintro e w9 ⟨rfl, hb9⟩; have hb19 := bt hb17 hb9))
        go_ret
        exact ⟨rfl, hb19⟩
      · obtain ⟨N, hN⟩ : ∃ N, bs.length = N + 1 := ⟨bs.length - 1, by omega⟩
        have z0 : ((bs.length : Int) == 0) = false := beq_eq_false_iff_ne.2 (by omega)
        have z1 : (bs.length : Int) - 1 = (N : Int) := by omega
        have z2 : (0 : Int) ≤ (N : Int) := by omega
        have z5 : wrap64 (N : Int) = (N : Int) := by have := HF.out; unfold wrap64; omega
        have z3 : (N : Int) ≤ (x2 : Int) := by omega
        have z4 : (N : Int) ≤ (bs.length : Int) := by omega
        have cS := fun W X hW hX => cS W X x2 N hW hX hN (by omega) hx2
        have HN := Lib.hid hN
        clear h0 hN
        go_wp2_with (first
          | (go_at_call 7; (with_reducible refine (cT _ _ _ hs2).mono ?_); rintro e w3 ⟨⟨v3, rfl, hown3⟩, hb3⟩; have hb13 := bt hbr hb3)
          | (at_builtin
             refine wpList_app8 _ rfl (.tmp 91) (.tmp 92) _ _ rfl wr.heap.size 5 t8 v3 bs rfl hown3 _ more rfl (hsrc _ hb13) ?_ ?_ ?_
             · rw [HQ.out]; have := HF.out; omega
             · exact hb3.size
             intro v4 w4 hown4 hg4 hat4
             have hbr4 := hb3.grown hg4 hb3.size (own_far hown3)
             have hb14 := bt hbr hbr4
             have hs24 := hs2.next hbr4
             obtain ⟨X4, z4, hv4, hq4, hx4, hs4, -⟩ := hown4.form
             rw [List.length_append, HQ.out] at hv4 hq4
             subst hv4)
          | (go_at_call 20
             (with_reducible refine (cU _ _ _ hb14 hs4 hq4 hx4).mono ?_)
             rintro e w5 ⟨⟨v5, u5, rfl, hown5, hown6⟩, hb5⟩
             have hb15 := bt hb14 hb5
             have hs25 := hs24.next hb5
             obtain ⟨X5, z5, hv5, -, -, hs5, -⟩ := hown5.form
             rw [ints_length, HM1.out] at hv5
             subst hv5
             obtain ⟨X6, z6, hv6, -, -, hs6, -⟩ := hown6.form
             rw [HQ.out] at hv6
             subst hv6)
          | (go_at_call 21; (with_reducible refine (cI _ _ _ hb15 hs5).mono ?_); rintro e w6 ⟨rfl, hb6⟩; have hb16 := bt hb15 hb6; have hs66 := hs6.next hb6; have hs26 := hs25.next hb6)
          | (go_at_call 12; (with_reducible refine (cM _ _ _ hb16 hs66).mono ?_); rintro e w7 ⟨rfl, hb7⟩; have hb17 := bt hb16 hb7; have hs27 := hs26.next hb7)
          | (go_at_call 20; (with_reducible refine (cS _ _ hb17 hs27).mono ?_); rintro e w8 ⟨rfl, hb8⟩; have hb18 := bt hb17 hb8)
          | (go_at_call 18; (with_reducible refine (wakes_any _).mono ?_); rintro e w9 ⟨rfl, hb9⟩; have hb19 := bt hb18 hb9))
        go_ret
        exact ⟨rfl, hb19⟩
theorem packRows_law (A A' A'' : Option Addr) (c c' c'' : Nat) (l ss : List Int) (more : List UInt8) (w : World) (hA : SlK .i64 w w.heap.size A l) (hA' : SlK .i64 w w.heap.size A' ss) (hM : Sl w w.heap.size A'' more) :
    Calls Try.prog 4 #[.slice A l.length c, .slice A' ss.length c', .slice A'' more.length c''] w fun e w' => e = .returned (.bool true) ∧ Below w.heap.size w w' := by
  by_cases h : 60 < l.length ∨ 60 < ss.length ∨ 60 < more.length
  · exact rows_out A A' A'' c c' c'' _ _ _ w h
  · by_cases hls : l.length = ss.length
    · have h1 : (l.zip ss).map (·.1) = l := List.map_fst_zip (by omega)
      have h2 : (l.zip ss).map (·.2) = ss := List.map_snd_zip (by omega)
      have hz : (l.zip ss).length = l.length := by rw [List.length_zip]; omega
      have kA := hA.slv
      have kA' := hA'.slv
      rw [← h1] at kA
      rw [← h2] at kA'
      rw [← hls]
      by_cases hf : AllFit (l.zip ss)
      · exact rows_ok A A' A'' c c' c'' _ _ (l.zip ss) more w hz rfl (by omega) (by omega) hf kA kA' hM
      · exact rows_not A A' A'' c c' c'' _ _ (l.zip ss) w hz (by omega) (by omega) hf kA kA'
    · exact rows_len A A' A'' c c' c'' _ _ _ w (by omega) (by omega) (by omega) hls
end Go.Proofs.Ytpkbfhpcadjglaa.pck
