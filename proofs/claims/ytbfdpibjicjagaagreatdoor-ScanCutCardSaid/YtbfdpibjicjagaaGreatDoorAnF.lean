/-
  The document's own new anchor. Conditions: a right geometry.
-/
import Derived.Test.YtbfdpibjicjagaaGreatDoorGAw
import Derived.Test.YtbfdpibjicjagaaGreatDoorGGm
import Derived.Deep.CutRange
set_option maxHeartbeats 4000000
set_option maxRecDepth 100000
namespace Go.Proofs.YtbfdpibjicjagaaGreatDoor.anc
open Go.RowKit Go.Lib
open Go.Proofs.YtbfdpibjicjagaaGreatDoor.gmt (Ok five_new)
structure Tri (W : World) (g : Nat) (a0 a1 a2 : Value) : Prop where
  c0 : W.cell? ⟨g, 0, none⟩ = some a0
  c1 : W.cell? ⟨g, 1, none⟩ = some a1
  c2 : W.cell? ⟨g, 2, none⟩ = some a2
  f0 : W.frozen? ⟨g, 0, none⟩ = false
  f1 : W.frozen? ⟨g, 1, none⟩ = false
  f2 : W.frozen? ⟨g, 2, none⟩ = false
section
variable {W W' : World} {g : Nat} {a0 a1 a2 : Value}
theorem tri_new (w : World) (a0 a1 a2 : Value) (t : TypeId) : Tri (w.alloc (.cells #[a0, a1, a2] t)) w.heap.size a0 a1 a2 := by
  have h := heap_alloc_new w (.cells #[a0, a1, a2] t)
  constructor <;> first | (rw [cell_of_row _ _ _ _ _ _ h]; rfl) | exact World.frozen?_alloc_new _ _ _ _
theorem Tri.keep {B : Nat} (h : Tri W g a0 a1 a2) (hb : Below B W W') (hg : g < B) : Tri W' g a0 a1 a2 :=
  ⟨(hb.cell (p := ⟨g, 0, none⟩) hg).trans h.c0, (hb.cell (p := ⟨g, 1, none⟩) hg).trans h.c1, (hb.cell (p := ⟨g, 2, none⟩) hg).trans h.c2, (hb.frozen (p := ⟨g, 0, none⟩) hg).trans h.f0, (hb.frozen (p := ⟨g, 1, none⟩) hg).trans h.f1, (hb.frozen (p := ⟨g, 2, none⟩) hg).trans h.f2⟩
theorem Tri.set0 (h : Tri W g a0 a1 a2) (v : Value) : Tri (W.setCell ⟨g, 0, none⟩ v) g v a1 a2 := by
  refine ⟨World.cell?_setCell_same _ _ _ h.c0, ?_, ?_, ?_, ?_, ?_⟩
  · rw [World.cell?_setCell_other _ _ _ _ (by simp)]; exact h.c1
  · rw [World.cell?_setCell_other _ _ _ _ (by simp)]; exact h.c2
  · rw [World.frozen?_setCell]; exact h.f0
  · rw [World.frozen?_setCell]; exact h.f1
  · rw [World.frozen?_setCell]; exact h.f2
theorem Tri.set1 (h : Tri W g a0 a1 a2) (v : Value) : Tri (W.setCell ⟨g, 1, none⟩ v) g a0 v a2 := by
  refine ⟨?_, World.cell?_setCell_same _ _ _ h.c1, ?_, ?_, ?_, ?_⟩
  · rw [World.cell?_setCell_other _ _ _ _ (by simp)]; exact h.c0
  · rw [World.cell?_setCell_other _ _ _ _ (by simp)]; exact h.c2
  · rw [World.frozen?_setCell]; exact h.f0
  · rw [World.frozen?_setCell]; exact h.f1
  · rw [World.frozen?_setCell]; exact h.f2
theorem Tri.set2 (h : Tri W g a0 a1 a2) (v : Value) : Tri (W.setCell ⟨g, 2, none⟩ v) g a0 a1 v := by
  refine ⟨?_, ?_, World.cell?_setCell_same _ _ _ h.c2, ?_, ?_, ?_⟩
  · rw [World.cell?_setCell_other _ _ _ _ (by simp)]; exact h.c0
  · rw [World.cell?_setCell_other _ _ _ _ (by simp)]; exact h.c1
  · rw [World.frozen?_setCell]; exact h.f0
  · rw [World.frozen?_setCell]; exact h.f1
  · rw [World.frozen?_setCell]; exact h.f2
end
theorem wpList_row {P : Program} (w : World) {ops : Array Oper} {rest : List Oper} {o : Oper} {a : Act} {Q : Exit → Act → World → Prop} (hgd : o.guard = none) (s x : Operand) (t tx : TypeId)
    (ho : o.op = .call { callee := .builtin .append, args := #[s, x], argTypes := #[t, tx] })
    (base k bytes : Nat) (e : TypeId) (z : Value) (ht : P.underlying t = some (.slice e)) (hi : (P.info? e).map (fun i => (i.zero, i.size, i.bytes)) = some (some z, k, bytes)) (hz : z.cells.size = k)
    (v : Value) (n : Nat) (xs : List Value) (hv : a.eval s = v) (hown : w.ownsRow base e k v n xs) (u : Value) (m : Nat) (news : List Value) (hu : a.eval x = u) (hs : Src P k tx u m news w)
    (h63 : n + m ≤ maxLen) (hlen : (n + m) * bytes ≤ 140737488355328) (hbase : base ≤ w.heap.size)
    (h : ∀ v' w', w'.ownsRow base e k v' (n + m) (xs ++ news) → w.grownBy w' v.ownBlock → wpList P ops Q rest (a.put o.dst v') w') : wpList P ops Q (o :: rest) a w :=
  wpList_plain hgd fun _ hK => by
    cases hi' : P.info? e with
    | none => rw [hi'] at hi; cases hi
    | some i =>
      rw [hi'] at hi
      simp only [Option.map_some, Option.some.injEq, Prod.mk.injEq] at hi
      obtain ⟨v', w', hrun, h2, h3, h4⟩ := run_app (P := P) w base t tx o.type e i z k bytes ht hi' hi.1 hi.2.1 hi.2.2 hz v n xs hown u m news hs h63 hlen hbase
      have hK' := hK _ _ (h v' w' h2 h3)
      unfold Oper.wp execOp
      simp only [ho, resolve, invoke, builtin, Sem.run_bind, Sem.run_pure, Result.andThen_ok, List.map_toArray, List.map_cons, List.map_nil, hv, hu, hrun]
      exact hK'
def upto (q : Nat) : List Int := (List.range q).map Int.ofNat
theorem upto_length (q : Nat) : (upto q).length = q := by simp [upto]
theorem upto_next (q : Nat) : ints (upto q) ++ [.int .i64 (q : Int)] = ints (upto (q + 1)) := by simp [upto, ints, List.range_succ]
def newH (d : Int) : Hom := ⟨upto (d.toNat + 1), d + 1, 0⟩
def firstA (z d : Int) (lab : ByteArray) : Anc := ⟨1, 0, 0, 1, 0, lab, List.replicate z.toNat (newH d)⟩
theorem rfirst_any (z d s l a : Int) (lab : ByteArray) (w : World) (ho : Ok z d s l a) :
    Calls Tryz.prog 36 #[.agg #[.int .i64 z, .int .i64 d, .int .i64 s, .int .i64 l, .int .i64 a], .string lab] w fun e w' => (∃ y : AV, e = .returned y.v ∧ y.d = firstA z d lab ∧ y.Own w' w.heap.size) ∧ Below w.heap.size w w' := by
  obtain ⟨o1, o2, -, -, -⟩ := ho
  obtain ⟨Z, rfl⟩ : ∃ Z : Nat, z = Z := ⟨z.toNat, by omega⟩
  obtain ⟨D, rfl⟩ : ∃ D : Nat, d = D := ⟨d.toNat, by omega⟩
  obtain ⟨g0, g1, -, -, -⟩ := five_new w Z D s l a
  have B0 := bl w (.cells #[.int .i64 Z, .int .i64 D, .int .i64 s, .int .i64 l, .int .i64 a] 23)
  have L0 : (w.alloc (.cells #[.int .i64 Z, .int .i64 D, .int .i64 s, .int .i64 l, .int .i64 a] 23)).heap.size = w.heap.size + 1 := by simp
  go_enter Tryz.func36, Tryz.ntmps36
  go_upto_region 1 with fail
  have Q0 := sev_new (w.alloc (.cells #[.int .i64 Z, .int .i64 D, .int .i64 s, .int .i64 l, .int .i64 a] 23)) (.int .i64 0) (.int .i64 0) (.int .i64 0) (.int .i64 0) (.int .i64 0) (.string ⟨#[]⟩) (.slice none 0 0) 26
  rw [L0] at Q0
  have B1 := kal B0 (.cells #[.int .i64 0, .int .i64 0, .int .i64 0, .int .i64 0, .int .i64 0, .string ⟨#[]⟩, .slice none 0 0] 26)
  have lg : w.heap.size < (w.alloc (.cells #[.int .i64 Z, .int .i64 D, .int .i64 s, .int .i64 l, .int .i64 a] 23)).heap.size := by omega
  replace g0 := kst (bl (w.alloc (.cells #[.int .i64 Z, .int .i64 D, .int .i64 s, .int .i64 l, .int .i64 a] 23)) (.cells #[.int .i64 0, .int .i64 0, .int .i64 0, .int .i64 0, .int .i64 0, .string ⟨#[]⟩, .slice none 0 0] 26)) lg g0
  replace g1 := kst (bl (w.alloc (.cells #[.int .i64 Z, .int .i64 D, .int .i64 s, .int .i64 l, .int .i64 a] 23)) (.cells #[.int .i64 0, .int .i64 0, .int .i64 0, .int .i64 0, .int .i64 0, .string ⟨#[]⟩, .slice none 0 0] 26)) lg g1
  have L1 : ((w.alloc (.cells #[.int .i64 Z, .int .i64 D, .int .i64 s, .int .i64 l, .int .i64 a] 23)).alloc (.cells #[.int .i64 0, .int .i64 0, .int .i64 0, .int .i64 0, .int .i64 0, .string ⟨#[]⟩, .slice none 0 0] 26)).heap.size = w.heap.size + 2 := by simp [L0]
  clear B0 L0 lg
  generalize (w.alloc (.cells #[.int .i64 Z, .int .i64 D, .int .i64 s, .int .i64 l, .int .i64 a] 23)).alloc (.cells #[.int .i64 0, .int .i64 0, .int .i64 0, .int .i64 0, .int .i64 0, .string ⟨#[]⟩, .slice none 0 0] 26) = w1 at *
  go_upto_region 2 with fail
  have P0 := sev_new w1 (.int .i64 1) (.int .i64 0) (.int .i64 0) (.int .i64 1) (.int .i64 0) (.string lab) (.slice none 0 0) 26
  rw [L1] at P0
  have hx := bl w1 (.cells #[.int .i64 1, .int .i64 0, .int .i64 0, .int .i64 1, .int .i64 0, .string lab, .slice none 0 0] 26)
  have L2 : (w1.alloc (.cells #[.int .i64 1, .int .i64 0, .int .i64 0, .int .i64 1, .int .i64 0, .string lab, .slice none 0 0] 26)).heap.size = w.heap.size + 3 := by simp [L1]
  have B2 := kal B1 (.cells #[.int .i64 1, .int .i64 0, .int .i64 0, .int .i64 1, .int .i64 0, .string lab, .slice none 0 0] 26)
  have g0 := kst hx (by omega) g0
  have g1 := kst hx (by omega) g1
  have Q1 := Q0.keep hx (by omega)
  clear hx B1 Q0 L1
  generalize w1.alloc (.cells #[.int .i64 1, .int .i64 0, .int .i64 0, .int .i64 1, .int .i64 0, .string lab, .slice none 0 0] 26) = w2 at *
  go_wp2_with fail
  go_loopw [6] (fun i w' => ∃ (k : Nat) (rs : List HomR) (v : Value), k ≤ Z ∧ i = .int .i64 k ∧ hds rs = List.replicate k (newH D) ∧ OwnH w' (w.heap.size + 3) v rs ∧ Sev w' (w.heap.size + 2) (.int .i64 1) (.int .i64 0) (.int .i64 0) (.int .i64 1) (.int .i64 0) (.string lab) v ∧ Sev w' (w.heap.size + 1) (.int .i64 0) (.int .i64 0) (.int .i64 0) (.int .i64 0) (.int .i64 0) (.string ⟨#[]⟩) (.slice none 0 0) ∧ w'.cell? ⟨w.heap.size, 0, none⟩ = some (.int .i64 Z) ∧ w'.cell? ⟨w.heap.size, 1, none⟩ = some (.int .i64 D) ∧ Below w.heap.size w w' ∧ w.heap.size + 3 ≤ w'.heap.size) (fun i _ => Z - (RowKit.intOf i).toNat)
  case atStart => exact ⟨0, [], .slice none 0 0, by omega, rfl, rfl, ownH_nil _ _, P0, Q1, g0, g1, B2, by omega⟩
  case round =>
    clear P0 Q1 g0 g1 B2 L2
    obtain ⟨w5, rfl⟩ : ∃ x, x = wr := ⟨wr, rfl⟩
    obtain ⟨k, rs, v, hk, rfl, hrs, hown, P3, Q3, g0, g1, hbr, hl3⟩ := hrel
    by_cases hlt : k < Z
    · have i1 : (k : Int) < (Z : Int) := by omega
      have i2 : (1 : Int) ≤ (D : Int) := by omega
      have hlk : rs.length = k := by
        have := congrArg List.length hrs
        rwa [hds_length, List.length_replicate] at this
      go_upto_region 6 with fail
      have T0 := tri_new w5 (.slice none 0 0) (.int .i64 ((D : Int) + 1)) (.int .i64 0) 69
      have hx := bl w5 (.cells #[.slice none 0 0, .int .i64 ((D : Int) + 1), .int .i64 0] 69)
      have lx : (w5.alloc (.cells #[.slice none 0 0, .int .i64 ((D : Int) + 1), .int .i64 0] 69)).heap.size = w5.heap.size + 1 := by simp
      have d0 := g0
      have d1 := g1
      have g0 := kst hx (by omega) g0
      have g1 := kst hx (by omega) g1
      have hx0 := hx
      clear hx
      generalize w5.alloc (.cells #[.slice none 0 0, .int .i64 ((D : Int) + 1), .int .i64 0] 69) = w6 at *
      go_wp2_with fail
      go_loopw [8] (fun i w' => ∃ (q : Nat) (vq : Value), q ≤ D + 1 ∧ i = .int .i64 q ∧ OwnV w' (w5.heap.size + 1) 3 vq (ints (upto q)) ∧ Tri w' w5.heap.size vq (.int .i64 ((D : Int) + 1)) (.int .i64 0) ∧ Below w5.heap.size w5 w' ∧ w5.heap.size + 1 ≤ w'.heap.size) (fun i _ => D + 1 - (RowKit.intOf i).toNat)
      case atStart => exact ⟨0, .slice none 0 0, by omega, rfl, ownV_nil _ _ _, T0, hx0, by omega⟩
      case round =>
        clear T0 hx0 lx
        obtain ⟨w7, rfl⟩ : ∃ x, x = wr := ⟨wr, rfl⟩
        obtain ⟨q, vq, hq, rfl, hoq, T3, hbq, hlq⟩ := hrel
        have g1 := kst hbq (by omega) d1
        by_cases hqt : q < D + 1
        · have j1 : (q : Int) ≤ (D : Int) := by omega
          have n0 := T3.c0
          have hlu := ints_length (upto q)
          rw [upto_length] at hlu
          have HU := Lib.hid hlu
          clear hlu
          go_wp2_with (first
            | (at_builtin
               refine wpList_appV _ rfl (.tmp 28) (.tmp 30) _ _ rfl (w5.heap.size + 1) 3 tvI vq (ints (upto q)) rfl (hoq.alloc _) _ [.int .i64 (q : Int)] rfl ((SlV.of_block (vs := [.int .i64 (q : Int)]) (heap_alloc_new _ _) rfl (Nat.lt_succ_self _)).src (ints_one [(q : Int)]) Tryz.underlying43 1) (by rw [HU.out]; unfold maxLen; simp; omega) (by rw [HU.out]; simp; omega) (by simp; omega) ?_
               intro v2 w8 ho8 hg8 hat8
               rw [upto_next] at ho8
               have b8 : Below (w5.heap.size + 1) w7 w8 := ((Below.refl (w5.heap.size + 1) w7).alloc hlq _).grown hg8 (by simp; omega) (fun x hx => (World.ownsRow.lt hoq x hx).1)
               have T8 := T3.keep b8 (by omega)
               have c8 := T8.c0
               have f8 := T8.f0
               obtain ⟨A2, d2, hv2, -, -, -, -⟩ := ho8.form
               subst hv2))
          have hlv : (ints (upto (q + 1))).length = q + 1 := by rw [ints_length, upto_length]
          have hsz := b8.size
          have T9 := T8.set0 (.slice A2 (ints (upto (q + 1))).length d2)
          have ho9 : OwnV (w8.setCell ⟨w5.heap.size, 0, none⟩ (.slice A2 (ints (upto (q + 1))).length d2)) (w5.heap.size + 1) 3 (.slice A2 (ints (upto (q + 1))).length d2) (ints (upto (q + 1))) :=
            ownsRow_setCell_other ho8 (fun hk => by have := (World.ownsRow.lt ho8 w5.heap.size hk).1; omega) _
          have b9 : Below w5.heap.size w5 (w8.setCell ⟨w5.heap.size, 0, none⟩ (.slice A2 (ints (upto (q + 1))).length d2)) := (hbq.trans (b8.mono (by omega))).setCell (Nat.le_refl _) _
          have hl9 : w5.heap.size + 1 ≤ (w8.setCell ⟨w5.heap.size, 0, none⟩ (.slice A2 (ints (upto (q + 1))).length d2)).heap.size := by simp; omega
          clear T8 ho8 b8 hg8 hat8 n0 hlv
          go_wp2_with fail
          go_roundw
          case rel => exact ⟨q + 1, _, by omega, by go_num, ho9, T9, b9, hl9⟩
          case measure => simp [RowKit.intOf]; omega
        · have j1 : ¬ (q : Int) ≤ (D : Int) := by omega
          obtain rfl : q = D + 1 := by omega
          have hfb := bt hbr (hbq.mono (Nat.le_refl _))
          have P4 := P3.keep hbq (by omega)
          have Q4 := Q3.keep hbq (by omega)
          have ow := hown.below hbq
          have d0' := kst hbq (by omega) d0
          have n0 := T3.c0
          have n1 := T3.c1
          have n2 := T3.c2
          have p6 := P4.c6
          have f6 := P4.f6
          obtain ⟨A2, d2, hv2, -, -, -, -⟩ := hoq.form
          subst hv2
          have hlv : (ints (upto (D + 1))).length = D + 1 := by rw [ints_length, upto_length]
          rw [hlv] at n0 hoq
          clear T3 P3 Q3 hown d0 hlv
          go_wp2_with (first
            | (at_builtin
               refine wpList_row _ rfl (.tmp 34) (.tmp 36) _ _ rfl (w.heap.size + 3) 3 40 69 (.agg #[.slice none 0 0, .int .i64 0, .int .i64 0]) Tryz.underlying24 h_info rfl v rs.length (hvs rs) rfl (World.ownsRow.alloc ow.1 _) _ 1 _ rfl (src_home (P := Tryz.prog) (heap_alloc_new w7 _) Tryz.underlying24 (by simp [Value.oneCell'])) (by rw [hlk]; unfold maxLen; omega) (by omega) (by simp; omega) ?_
               intro v3 w9 h3 hg3
               have b9 : Below (w.heap.size + 3) w7 w9 := ((Below.refl (w.heap.size + 3) w7).alloc (by omega) _).grown hg3 (by simp; omega) (fun x hx => (World.ownsRow.lt ow.1 x hx).1)
               have P9 := P4.keep b9 (by omega)
               have c9 := P9.c6
               have f9 := P9.f6
               obtain ⟨A3, d3, hv3, -, -, -⟩ := row_form h3
               subst hv3))
          have ha := bl w7 (.cells #[.slice A2 (D + 1 : Nat) d2, .int .i64 ((D : Int) + 1), .int .i64 0] 69)
          have hop : OwnV (w7.alloc (.cells #[.slice A2 (D + 1 : Nat) d2, .int .i64 ((D : Int) + 1), .int .i64 0] 69)) (w.heap.size + 3) 3 (.slice A2 (upto (D + 1)).length d2) (ints (upto (D + 1))) := by
            rw [upto_length]
            exact (hoq.alloc _).less (by omega)
          have hmo := (ow.below ha).more (r := ⟨A2, d2, upto (D + 1), (D : Int) + 1, 0⟩) hg3 hop (by have := h3; unfold HomR.vs; rw [upto_length]; exact this)
          have hfin : OwnH (w9.setCell ⟨w.heap.size + 2, 6, none⟩ (.slice A3 (k + 1 : Nat) d3)) (w.heap.size + 3) (.slice A3 (k + 1 : Nat) d3) (rs ++ [⟨A2, d2, upto (D + 1), (D : Int) + 1, 0⟩]) := by
            rw [← hlk]
            exact OwnH.cell_set hmo (by omega) _
          have hdn : hds (rs ++ [⟨A2, d2, upto (D + 1), (D : Int) + 1, 0⟩]) = List.replicate (k + 1) (newH D) := by
            rw [hds_append, hrs, List.replicate_succ']
            simp [hds, HomR.d, newH]
          have hsz := b9.size
          have b10 : Below (w.heap.size + 3) w5 w9 := (hbq.mono hl3).trans b9
          have e0 := ks b10 (by omega) d1
          have e2 := kst hbq (by omega) d1
          have z0 := ks b9 (by omega) d0'
          have z1 := ks b9 (by omega) e2
          have bfin : Below w.heap.size w (w9.setCell ⟨w.heap.size + 2, 6, none⟩ (.slice A3 (k + 1 : Nat) d3)) := (hbr.trans (b10.mono (by omega))).setCell (show w.heap.size ≤ w.heap.size + 2 by omega) _
          have hn : ∀ i, (⟨w.heap.size, i, none⟩ : Addr) ≠ ⟨w.heap.size + 2, 6, none⟩ := fun i h => by have := congrArg Addr.block h; simp at this
          have Q9 := Q4.keep b9 (by omega)
          rw [hlk] at *
          go_roundw
          case rel => exact ⟨k + 1, _, _, by omega, by go_num, hdn, hfin, P9.set6 _, Q9.apart (by omega) _, by rw [World.cell?_setCell_other _ _ _ _ (hn _).symm]; exact z0, by rw [World.cell?_setCell_other _ _ _ _ (hn _).symm]; exact z1, bfin, by simp; omega⟩
          case measure => simp [RowKit.intOf]; omega
    · have hrs2 : hds rs = List.replicate Z (newH D) := by rw [hrs]; congr 1; omega
      have HR := Lib.hid hrs2
      have i1 : ¬ (k : Int) < (Z : Int) := by omega
      obtain ⟨c0, c1, c2, c3, c4, c5, c6, -, -, -, -, -, -, -⟩ := id P3
      obtain ⟨z0, z1, z2, z3, z4, z5, z6, f0, f1, f2, f3, f4, f5, f6⟩ := id Q3
      clear hrs hrs2
      obtain ⟨A1, e1, rfl, n1, n2, s1⟩ := row_form hown.1
      go_wp2_with fail
      have k7 := (((((((Q3.set0 (.int .i64 1)).set1 (.int .i64 0)).set2 (.int .i64 0)).set3 (.int .i64 1)).set4 (.int .i64 0)).set5 (.string lab)).set6 (.slice A1 rs.length e1))
      have hg : w.heap.size + 1 < w.heap.size + 3 := by omega
      have h7 := (((((((hown.cell_set (o := 0) hg (.int .i64 1)).cell_set (o := 1) hg (.int .i64 0)).cell_set (o := 2) hg (.int .i64 0)).cell_set (o := 3) hg (.int .i64 1)).cell_set (o := 4) hg (.int .i64 0)).cell_set (o := 5) hg (.string lab)).cell_set (o := 6) hg (.slice A1 rs.length e1))
      have hl : w.heap.size ≤ w.heap.size + 1 := by omega
      refine bodyPost_ret (v := .agg #[.int .i64 1, .int .i64 0, .int .i64 0, .int .i64 1, .int .i64 0, .string lab, .slice A1 rs.length e1]) (by simp [results, Tryz.results36, go_sem, k7.c0, k7.c1, k7.c2, k7.c3, k7.c4, k7.c5, k7.c6]) rfl ⟨⟨⟨1, 0, 0, 1, 0, lab, A1, e1, rs⟩, rfl, ?_, OwnH.less h7 (by omega)⟩, (((((((hbr.setCell hl _).setCell hl _).setCell hl _).setCell hl _).setCell hl _).setCell hl _).setCell hl _)⟩
      show (⟨1, 0, 0, 1, 0, lab, hds rs⟩ : Anc) = _
      rw [HR.out]
      simp [firstA]
end Go.Proofs.YtbfdpibjicjagaaGreatDoor.anc
