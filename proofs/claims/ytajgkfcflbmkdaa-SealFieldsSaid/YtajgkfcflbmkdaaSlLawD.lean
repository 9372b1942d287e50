/-
  The law SealFields, walked: it returns true for every address, stamp and payload. No condition.
-/
import Derived.Test.YtajgkfcflbmkdaaSlLawC
namespace Go.Proofs.Ytajgkfcflbmkdaa.sel
open Go.RowKit Go.Lib
open Go.Proofs.Ytajgkfcflbmkdaa.crc (sum)
open Go.Proofs.Ytajgkfcflbmkdaa.pck (num le le_length num_two num_four num_le)

/-- Six bytes, their cells, and the two numbers that they are. -/
theorem six_cells {W : World} {B g off : Nat} {Y : List UInt8} (hY : Y.length = 10) (h : Sl W B (some ⟨g, off, none⟩) Y) :
    ∃ y0 y1 y2 y3 y4 y5 : Nat, (y0 < 256 ∧ y1 < 256 ∧ y2 < 256 ∧ y3 < 256 ∧ y4 < 256 ∧ y5 < 256) ∧
      num (Y.take 2) = y0 + 256 * y1 ∧ num ((Y.drop 2).take 4) = y2 + 256 * y3 + 65536 * y4 + 16777216 * y5 ∧
      W.cell? ⟨g, off, none⟩ = some (.int .u8 (y0 : Int)) ∧ W.cell? ⟨g, off + 1, none⟩ = some (.int .u8 (y1 : Int)) ∧ W.cell? ⟨g, off + 2, none⟩ = some (.int .u8 (y2 : Int)) ∧
      W.cell? ⟨g, off + 3, none⟩ = some (.int .u8 (y3 : Int)) ∧ W.cell? ⟨g, off + 4, none⟩ = some (.int .u8 (y4 : Int)) ∧ W.cell? ⟨g, off + 5, none⟩ = some (.int .u8 (y5 : Int)) := by
  obtain ⟨b, o, he, -, hc⟩ := h (by omega)
  simp only [Option.some.injEq, Addr.mk.injEq, and_true] at he
  obtain ⟨rfl, rfl⟩ := he
  refine ⟨Y[0].toNat, Y[1].toNat, Y[2].toNat, Y[3].toNat, Y[4].toNat, Y[5].toNat, ⟨UInt8.toNat_lt _, UInt8.toNat_lt _, UInt8.toNat_lt _, UInt8.toNat_lt _, UInt8.toNat_lt _, UInt8.toNat_lt _⟩, ?_, ?_, hc 0 (by omega), hc 1 (by omega), hc 2 (by omega), hc 3 (by omega), hc 4 (by omega), hc 5 (by omega)⟩
  · rw [num_two _ (by rw [List.length_take]; omega)]
    simp
  · rw [num_four _ (by rw [List.length_take, List.length_drop]; omega)]
    simp
theorem enc_head (a s : Nat) (l : List UInt8) (hl : l.length < 256) : ∃ h : 0 < (enc a s l).length, (enc a s l)[0].toNat = l.length := by
  refine ⟨by rw [enc_length]; omega, ?_⟩
  have h1 := enc_first a s hl
  rw [Go.Proofs.Ytajgkfcflbmkdaa.pck.num_one _ (by rw [List.length_take, enc_length]; omega)] at h1
  simpa using h1

theorem fields_long (a s : Int) (B : Option Addr) (n d : Nat) (w : World) (h : 96 < n) :
    Calls Try.prog 7 #[.int .i64 a, .int .i64 s, .slice B n d] w fun e w' => e = .returned (.bool true) ∧ Below w.heap.size w w' := by
  have i1 : (96 : Int) < (n : Int) := by omega
  clear h
  go_enter Try.func7, Try.ntmps7
  go_wp2
  go_ret
  exact ⟨rfl, Below.refl _ _⟩
/-- What a sector's bytes hold, cell by cell. -/
structure Holds (W : World) (g off n a s : Nat) (y0 y1 y2 y3 y4 y5 : Nat) : Prop where
  c : W.cell? ⟨g, off, none⟩ = some (.int .u8 (n : Int))
  c0 : W.cell? ⟨g, off + (n + 1), none⟩ = some (.int .u8 (y0 : Int))
  c1 : W.cell? ⟨g, off + (n + 1) + 1, none⟩ = some (.int .u8 (y1 : Int))
  c2 : W.cell? ⟨g, off + (n + 1) + 2, none⟩ = some (.int .u8 (y2 : Int))
  c3 : W.cell? ⟨g, off + (n + 1) + 3, none⟩ = some (.int .u8 (y3 : Int))
  c4 : W.cell? ⟨g, off + (n + 1) + 4, none⟩ = some (.int .u8 (y4 : Int))
  c5 : W.cell? ⟨g, off + (n + 1) + 5, none⟩ = some (.int .u8 (y5 : Int))
  b : y0 < 256 ∧ y1 < 256 ∧ y2 < 256 ∧ y3 < 256 ∧ y4 < 256 ∧ y5 < 256
  ea : a = y0 + 256 * y1
  es : s = y2 + 256 * y3 + 65536 * y4 + 16777216 * y5
theorem enc_cells {a s n x : Nat} {l : List UInt8} {W : World} {X : Option Addr} (ha : a < 65536) (hs : s < 4294967296) (hln : l.length = n) (h : n ≤ 96) (hX : Lies W X x (enc a s l)) :
    ∃ g off y0 y1 y2 y3 y4 y5, X = some ⟨g, off, none⟩ ∧ g < W.heap.size ∧ Holds W g off n a s y0 y1 y2 y3 y4 y5 := by
  subst hln
  obtain ⟨g, off, rfl, hg, hc⟩ := hX.2.2 (by rw [enc_length]; omega)
  obtain ⟨hp, he⟩ := enc_head a s l (by omega)
  have hd := hX.2.2.drop (l.length + 1)
  have e10 := enc_ten a s l
  rw [enc_length, show l.length + 11 - 10 = l.length + 1 by omega] at e10
  have hdl : ((enc a s l).drop (l.length + 1)).length = 10 := by rw [List.length_drop, enc_length]; omega
  obtain ⟨y0, y1, y2, y3, y4, y5, hb, n1, n2, k0, k1, k2, k3, k4, k5⟩ := six_cells hdl hd
  rw [e10] at n1 n2
  rw [num_le' (by simpa using ha)] at n1
  rw [List.drop_left' (le_length 2 a), num_le' (by simpa using hs)] at n2
  have k := hc 0 hp
  rw [Nat.add_zero, by8, he] at k
  exact ⟨g, off, y0, y1, y2, y3, y4, y5, rfl, hg, ⟨k, k0, k1, k2, k3, k4, k5, hb, n1, n2⟩⟩
theorem Holds.keep {W W' : World} {B g off n a s y0 y1 y2 y3 y4 y5 : Nat} (h : Holds W g off n a s y0 y1 y2 y3 y4 y5) (hb : Below B W W') (hg : g < B) : Holds W' g off n a s y0 y1 y2 y3 y4 y5 :=
  ⟨(hb.cell (p := ⟨_, _, none⟩) hg).trans h.c, (hb.cell (p := ⟨_, _, none⟩) hg).trans h.c0, (hb.cell (p := ⟨_, _, none⟩) hg).trans h.c1, (hb.cell (p := ⟨_, _, none⟩) hg).trans h.c2, (hb.cell (p := ⟨_, _, none⟩) hg).trans h.c3, (hb.cell (p := ⟨_, _, none⟩) hg).trans h.c4, (hb.cell (p := ⟨_, _, none⟩) hg).trans h.c5, h.b, h.ea, h.es⟩

set_option maxHeartbeats 2000000 in
set_option maxRecDepth 100000 in
theorem fields_go (ad st : Int) (B : Option Addr) (n d a s : Nat) (l : List UInt8) (w : World) (hln : l.length = n) (h : n ≤ 96) (hB : Lies w B d l) (ha : a < 65536) (hs : s < 4294967296) (hA : (IntKind.u64.wrap ad).tmod 65536 = (a : Int)) (hS : (IntKind.u64.wrap st).tmod 4294967296 = (s : Int)) :
    Calls Try.prog 7 #[.int .i64 ad, .int .i64 st, .slice B n d] w fun e w' => e = .returned (.bool true) ∧ Below w.heap.size w w' := by
  have i1 : ¬ (96 : Int) < (n : Int) := by omega
  have cM := make_at a s B n d l w hln hB.2.2
  rw [made_ok ha hs (by omega)] at cM
  simp only [enc_length, hln] at cM
  have cE := fun (W : World) (X : Option Addr) (x : Nat) (hX : Lies W X x (enc a s l)) => enc_cells ha hs hln h hX
  have hel : (enc a s l).length = n + 11 := by rw [enc_length, hln]
  have cB : ∀ (W : World) (g off x : Nat), Below w.heap.size w W → Lies W (some ⟨g, off, none⟩) x (enc a s l) → Calls Try.prog 14 #[.slice (some ⟨g, off + 1, none⟩) n (x - 1), .slice B n d] W fun e w' => e = .returned (.bool true) ∧ Below W.heap.size W w' := fun W g off x hb hX => by
    have hp := (hX.2.2.drop 1).take l.length
    rw [enc_load] at hp
    have := keep_any (some ⟨g, off + 1, none⟩) B (x - 1) d _ _ l l W hp ((hB.2.2.below hb).more hb.size) (Nat.le_refl _) (Nat.le_refl _) (by omega)
    rwa [hln, decide_eq_true rfl] at this
  have hwh := enc_whole a s l
  unfold Whole at hwh
  rw [hel, show n + 11 - 4 = n + 7 by omega] at hwh
  have cG : ∀ (W : World) (g off x c : Nat), Lies W (some ⟨g, off, none⟩) x (enc a s l) → Calls Try.prog 21 #[.slice (some ⟨g, off + (n + 1) + 6, none⟩) 4 c, .int .i64 4] W fun e w' => e = .returned (.int .i64 (num ((enc a s l).drop (n + 7)))) ∧ W = w' := fun W g off x c hX => by
    have := rget_tail 4 (n + 7) (n + 11) 4 g off c (enc a s l) W (by omega) (by omega) hel (by omega) hX.2.2
    rw [List.take_of_length_le (by rw [List.length_drop]; omega), show off + (n + 7) = off + (n + 1) + 6 by omega] at this
    exact this
  have cS : ∀ (W : World) (g off x : Nat), Lies W (some ⟨g, off, none⟩) x (enc a s l) → Calls Try.prog 22 #[.slice (some ⟨g, off, none⟩) (n + 7 : Nat) x] W fun e w' => e = .returned (.int .i64 (sum ((enc a s l).take (n + 7)))) ∧ W = w' := fun W g off x hX => rsum_head (n + 7) g off x (enc a s l) W (by omega) (by omega) hX.2.2
  rw [← hwh] at cS
  generalize num ((enc a s l).drop (n + 7)) = q at *
  have HM := Lib.hid cM
  have HE := Lib.hid cE
  have HBy := Lib.hid cB
  have HG := Lib.hid cG
  have HS := Lib.hid cS
  have HL := Lib.hid hel
  generalize enc a s l = E at *
  have a1 : (a : Int) < 65536 := by omega
  have s1 : (s : Int) < 4294967296 := by omega
  have r1 : ((n : Int) != (n : Int)) = false := bne_self_eq_false _
  have r2 : ((n : Int) + 11 != (n : Int) + 11) = false := bne_self_eq_false _
  have v1 : (1 : Int) ≤ (n : Int) + 1 := by omega
  have v2 : (n : Int) + 1 ≤ (n : Int) + 11 := by omega
  have v3 : (0 : Int) ≤ (n : Int) + 1 := by omega
  have v4 : ((n : Int) + 1).toNat = n + 1 := by omega
  have v5 : (n : Int) + 7 ≤ (n : Int) + 11 := by omega
  have v6 : (0 : Int) ≤ (n : Int) + 7 := by omega
  have v7 : ((n : Int) + 7).toNat = n + 7 := by omega
  clear cM cE cB cG cS hel hwh hln ha hs
  go_enter Try.func7, Try.ntmps7
  go_wp2_with (first
    | (go_at_call 11; (with_reducible refine HM.out.mono ?_); rintro e w1 ⟨⟨X, x, rfl, hX⟩, hb1⟩
       obtain ⟨g, off, y0, y1, y2, y3, y4, y5, rfl, hg, hH⟩ := HE.out _ _ _ hX
       have hx := hX.1
       rw [HL.out] at hx
       have x1 : (n : Int) + 1 ≤ (x : Int) := by omega
       have x2 : ¬ x = 1 := by omega
       have x3 : ¬ (x : Int) = (n : Int) + 1 := by omega
       have x4 : (n : Int) + 7 ≤ (x : Int) := by omega
       have kc := hH.c)
    | (go_at_call 14; (with_reducible refine (HBy.out _ _ _ _ hb1 hX).mono ?_); rintro e w2 ⟨rfl, hb2⟩))
  have hH2 := hH.keep hb2 hg
  obtain ⟨-, c0, c1, c2, c3, c4, c5, ⟨l0, l1, l2, l3, l4, l5⟩, ea, es⟩ := hH2
  have X2 := hX.next hb2
  have hg2 := Nat.lt_of_lt_of_le hg hb2.size
  have B1 : ((y0 : Int) + 256 * (y1 : Int) == (a : Int)) = true := beq_iff_eq.2 (by omega)
  have B2 : ((y2 : Int) + 256 * (y3 : Int) + 65536 * (y4 : Int) + 16777216 * (y5 : Int) == (s : Int)) = true := beq_iff_eq.2 (by omega)
  have B3 : ((q : Int) == (q : Int)) = true := beq_self_eq_true _
  have t0 : IntKind.i64.wrap (y0 : Int) = (y0 : Int) := wrap_small _ (by omega) (by omega)
  have t1 : IntKind.i64.wrap (y1 : Int) = (y1 : Int) := wrap_small _ (by omega) (by omega)
  have t2 : IntKind.i64.wrap (y2 : Int) = (y2 : Int) := wrap_small _ (by omega) (by omega)
  have t3 : IntKind.i64.wrap (y3 : Int) = (y3 : Int) := wrap_small _ (by omega) (by omega)
  have t4 : IntKind.i64.wrap (y4 : Int) = (y4 : Int) := wrap_small _ (by omega) (by omega)
  have t5 : IntKind.i64.wrap (y5 : Int) = (y5 : Int) := wrap_small _ (by omega) (by omega)
  have u1 : IntKind.i64.wrap (256 * (y1 : Int)) = 256 * (y1 : Int) := wrap_small _ (by omega) (by omega)
  have u2 : IntKind.i64.wrap ((y0 : Int) + 256 * (y1 : Int)) = (y0 : Int) + 256 * (y1 : Int) := wrap_small _ (by omega) (by omega)
  have u3 : IntKind.i64.wrap (256 * (y3 : Int)) = 256 * (y3 : Int) := wrap_small _ (by omega) (by omega)
  have u4 : IntKind.i64.wrap ((y2 : Int) + 256 * (y3 : Int)) = (y2 : Int) + 256 * (y3 : Int) := wrap_small _ (by omega) (by omega)
  have u5 : IntKind.i64.wrap (65536 * (y4 : Int)) = 65536 * (y4 : Int) := wrap_small _ (by omega) (by omega)
  have u6 : IntKind.i64.wrap ((y2 : Int) + 256 * (y3 : Int) + 65536 * (y4 : Int)) = (y2 : Int) + 256 * (y3 : Int) + 65536 * (y4 : Int) := wrap_small _ (by omega) (by omega)
  have u7 : IntKind.i64.wrap (16777216 * (y5 : Int)) = 16777216 * (y5 : Int) := wrap_small _ (by omega) (by omega)
  have u8 : IntKind.i64.wrap ((y2 : Int) + 256 * (y3 : Int) + 65536 * (y4 : Int) + 16777216 * (y5 : Int)) = (y2 : Int) + 256 * (y3 : Int) + 65536 * (y4 : Int) + 16777216 * (y5 : Int) := wrap_small _ (by omega) (by omega)
  have u9 : IntKind.i64.wrap ((n : Int) + 7) = (n : Int) + 7 := wrap_small _ (by omega) (by omega)
  have x5 : ¬ x - (n + 1) = 6 := by omega
  have x6 : ¬ ((x - (n + 1) : Nat) : Int) = 6 := by omega
  have x7 : (6 : Int) ≤ ((x - (n + 1) : Nat) : Int) := by omega
  have x8 : 6 ≤ x - (n + 1) := by omega
  generalize x - (n + 1) = xc at *
  have X2d := X2.next (below_dr (Below.refl w2.heap.size w2))
  clear ea es hH kc
  go_region_held3 (fun W => W.cell? ⟨g, off + (n + 1), none⟩ = some (.int .u8 (y0 : Int)) ∧ W.cell? ⟨g, off + (n + 1) + 1, none⟩ = some (.int .u8 (y1 : Int)) ∧ W.cell? ⟨g, off + (n + 1) + 2, none⟩ = some (.int .u8 (y2 : Int)) ∧
      W.cell? ⟨g, off + (n + 1) + 3, none⟩ = some (.int .u8 (y3 : Int)) ∧ W.cell? ⟨g, off + (n + 1) + 4, none⟩ = some (.int .u8 (y4 : Int)) ∧ W.cell? ⟨g, off + (n + 1) + 5, none⟩ = some (.int .u8 (y5 : Int)) ∧ Below w2.heap.size w2 W)
    ((go_split_ands; refine ⟨?_, ?_, ?_, ?_, ?_, ?_, ?_⟩ <;> (first
      | assumption | exact below_dr (Below.refl _ _) | exact bt (by assumption) (by assumption)
      | exact kst (below_dr (Below.refl w2.heap.size w2)) hg2 (by assumption)
      | exact kst (bt (a := w2) (by assumption) (by assumption)) hg2 (by assumption) | fail)))
    (first
      | (go_at_call 21; (with_reducible refine (HG.out _ _ _ _ _ X2d).mono ?_); rintro e w4 ⟨rfl, rfl⟩)
      | (go_at_call 22; (with_reducible refine (HS.out _ _ _ _ X2d).mono ?_); rintro e w4 ⟨rfl, rfl⟩)
      | (go_at_call 19; (with_reducible refine (wk_any _).mono ?_); rintro e w3 ⟨rfl, hb3⟩)
      | fail)
  all_goals
    go_wp2
    go_ret
    exact ⟨rfl, bt hb1 (bt (below_dr hb2) hb3)⟩
theorem fields_law (ad st : Int) (B : Option Addr) (d : Nat) (l : List UInt8) (w : World) (hd : l.length ≤ d) (hdm : d ≤ maxLen) (hB : Sl w w.heap.size B l) :
    Calls Try.prog 7 #[.int .i64 ad, .int .i64 st, .slice B l.length d] w fun e w' => e = .returned (.bool true) ∧ Below w.heap.size w w' := by
  by_cases h : 96 < l.length
  · exact fields_long ad st B _ d w h
  · obtain ⟨a, ha, hA⟩ := wrap_mod ad 65536 (by omega)
    obtain ⟨s, hs, hS⟩ := wrap_mod st 4294967296 (by omega)
    exact fields_go ad st B _ d a s l w rfl (by omega) ⟨hd, hdm, hB⟩ ha hs hA hS
end Go.Proofs.Ytajgkfcflbmkdaa.sel
