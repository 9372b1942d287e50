/-
  Package seal's Open, by its contract. Conditions: byte strings shorter than 2^20.
-/
import Derived.Test.YtajgkfcflbmkdaaSlB
import Derived.StillTailTactics
import Derived.OneCell
namespace Go.Proofs.Ytajgkfcflbmkdaa.sel
open Go.RowKit Go.Lib
open Go.Proofs.Ytajgkfcflbmkdaa.crc (sum of_any)
open Go.Proofs.Ytajgkfcflbmkdaa.pck (Parted Unrowed unrow num le le_length unpart_ok unpart_no unrow_any own_far)

/-- What Open answers. -/
def Opened (base : Nat) (r : Opn) (e : Ending) (w' : World) : Prop := ∃ v, e = .returned (.tuple #[.agg #[.int .i64 r.addr, .int .i64 r.stamp, v], .int .i64 r.err]) ∧ Own w' base 5 v r.load
/-- What Open answers where it refuses. -/
def Refused (err : Int) (e : Ending) : Prop := e = .returned (.tuple #[.agg #[.int .i64 0, .int .i64 0, .slice none 0 0], .int .i64 err])

/-- Three cells of a block of one's own. -/
structure Three (W : World) (g : Nat) (a b c : Value) : Prop where
  c0 : W.cell? ⟨g, 0, none⟩ = some a
  c1 : W.cell? ⟨g, 1, none⟩ = some b
  c2 : W.cell? ⟨g, 2, none⟩ = some c
  f0 : W.frozen? ⟨g, 0, none⟩ = false
  f1 : W.frozen? ⟨g, 1, none⟩ = false
  f2 : W.frozen? ⟨g, 2, none⟩ = false
theorem three_new (w : World) (a b c : Value) (t : TypeId) : Three (w.alloc (.cells #[a, b, c] t)) w.heap.size a b c := by
  have h := heap_alloc_new w (.cells #[a, b, c] t)
  refine ⟨?_, ?_, ?_, ?_, ?_, ?_⟩
  · rw [cell_of_row _ _ 0 _ _ _ h]; rfl
  · rw [cell_of_row _ _ 1 _ _ _ h]; rfl
  · rw [cell_of_row _ _ 2 _ _ _ h]; rfl
  all_goals exact World.frozen?_alloc_new _ _ _ _
theorem Three.keep {W W' : World} {g B : Nat} {a b c : Value} (h : Three W g a b c) (hb : Below B W W') (hg : g < B) : Three W' g a b c :=
  ⟨(hb.cell (p := ⟨g, 0, none⟩) hg).trans h.c0, (hb.cell (p := ⟨g, 1, none⟩) hg).trans h.c1, (hb.cell (p := ⟨g, 2, none⟩) hg).trans h.c2,
   (hb.frozen (p := ⟨g, 0, none⟩) hg).trans h.f0, (hb.frozen (p := ⟨g, 1, none⟩) hg).trans h.f1, (hb.frozen (p := ⟨g, 2, none⟩) hg).trans h.f2⟩

theorem Three.set {W : World} {g : Nat} {a b c : Value} (h : Three W g a b c) (a' b' c' : Value) : Three (((W.setCell ⟨g, 0, none⟩ a').setCell ⟨g, 1, none⟩ b').setCell ⟨g, 2, none⟩ c') g a' b' c' := by
  have n01 : (⟨g, 0, none⟩ : Addr) ≠ ⟨g, 1, none⟩ := by simp
  have n02 : (⟨g, 0, none⟩ : Addr) ≠ ⟨g, 2, none⟩ := by simp
  have n12 : (⟨g, 1, none⟩ : Addr) ≠ ⟨g, 2, none⟩ := by simp
  refine ⟨?_, ?_, ?_, ?_, ?_, ?_⟩
  · rw [World.cell?_setCell_other _ _ _ _ n02.symm, World.cell?_setCell_other _ _ _ _ n01.symm]
    exact World.cell?_setCell_same _ _ _ h.c0
  · rw [World.cell?_setCell_other _ _ _ _ n12.symm]
    refine World.cell?_setCell_same _ _ _ (u := b) ?_
    rw [World.cell?_setCell_other _ _ _ _ n01]
    exact h.c1
  · refine World.cell?_setCell_same _ _ _ (u := c) ?_
    rw [World.cell?_setCell_other _ _ _ _ n12, World.cell?_setCell_other _ _ _ _ n02]
    exact h.c2
  · rw [World.frozen?_setCell, World.frozen?_setCell, World.frozen?_setCell]; exact h.f0
  · rw [World.frozen?_setCell, World.frozen?_setCell, World.frozen?_setCell]; exact h.f1
  · rw [World.frozen?_setCell, World.frozen?_setCell, World.frozen?_setCell]; exact h.f2
theorem Three.below {B : Nat} {a W : World} (h : Below B a W) {g : Nat} (hg : B ≤ g) (x y z : Value) : Below B a (((W.setCell ⟨g, 0, none⟩ x).setCell ⟨g, 1, none⟩ y).setCell ⟨g, 2, none⟩ z) :=
  ((h.setCell hg x).setCell hg y).setCell hg z

theorem Three.drew {W : World} {g : Nat} {a b c : Value} (h : Three W g a b c) : Three W.drew g a b c := ⟨h.c0, h.c1, h.c2, h.f0, h.f1, h.f2⟩
theorem own_three {W : World} {base g : Nat} {e : TypeId} {v : Value} {l : List UInt8} (h : Own W base e v l) (hg : g < base) (x y z : Value) : Own (((W.setCell ⟨g, 0, none⟩ x).setCell ⟨g, 1, none⟩ y).setCell ⟨g, 2, none⟩ z) base e v l := by
  have hne : v.ownBlock ≠ some g := fun k => by have := (World.ownsRow.lt h g k).1; omega
  exact ownsRow_setCell_other (ownsRow_setCell_other (ownsRow_setCell_other h hne x) hne y) hne z

theorem parse_no1 (m : Nat) (A : Option Addr) (c : Nat) (b : List UInt8) (w : World) (hlen : b.length = m) (h : m < 1 + num (b.take 1)) (hc : m ≤ c) (hx : c ≤ maxLen) (hA : Sl w w.heap.size A b) :
    Calls Try.prog 30 #[.slice A m c] w fun e w' => Refused 4 e ∧ Below w.heap.size w w' := by
  have h3 := three_new w (.int .i64 0) (.int .i64 0) (.slice none 0 0) 24
  have hb0 := bl w (.cells #[.int .i64 0, .int .i64 0, .slice none 0 0] 24)
  have hl : w.heap.size < (w.alloc (.cells #[.int .i64 0, .int .i64 0, .slice none 0 0] 24)).heap.size := by simp
  have cU := unpart_no m A c b _ hlen h hc hx ((hA.below hb0).more hb0.size)
  clear h hlen hA
  go_enter Try.func30, Try.ntmps30
  go_wp2_with fail
  generalize w.alloc (.cells #[.int .i64 0, .int .i64 0, .slice none 0 0] 24) = w0 at *
  go_wp2_with (first
    | (go_at_call 43; (with_reducible refine cU.mono ?_); rintro e w1 ⟨rfl, hb1⟩; have k3 := h3.keep hb1 hl; obtain ⟨k0, k1, k2, z0, z1, z2⟩ := id k3))
  have k4 := k3.set (.int .i64 0) (.int .i64 0) (.slice none 0 0)
  refine bodyPost_ret (v := .tuple #[.agg #[.int .i64 0, .int .i64 0, .slice none 0 0], .int .i64 4]) (by simp [results, Try.results30, go_sem, k4.c0, k4.c1, k4.c2]) rfl ⟨rfl, Three.below (bt hb0 hb1) (Nat.le_refl _) _ _ _⟩

theorem unrow_two_short {r : List UInt8} (h : r.length < 6) : unrow [2, 4] r = .error 4 := by
  have t2 : Int.toNat 2 = 2 := rfl
  have t4 : Int.toNat 4 = 4 := rfl
  rw [unrow, if_pos (.inr (.inl rfl)), t2]
  by_cases h2 : r.length < 2
  · rw [if_pos h2]
  · rw [if_neg h2, unrow, if_pos (.inr (.inr rfl)), t4, if_pos (by rw [List.length_drop]; omega)]
theorem unrow_two_long {r : List UInt8} (h : 6 ≤ r.length) : unrow [2, 4] r = .ok ([(num (r.take 2) : Int), (num ((r.drop 2).take 4) : Int)], r.drop 6) := by
  have t2 : Int.toNat 2 = 2 := rfl
  have t4 : Int.toNat 4 = 4 := rfl
  rw [unrow, if_pos (.inr (.inl rfl)), t2, if_neg (show ¬ r.length < 2 by omega), unrow, if_pos (.inr (.inr rfl)), t4, if_neg (by rw [List.length_drop]; omega)]
  simp [unrow]
theorem unrow_short (n : Nat) (X : Option Addr) (x : Nat) (r : List UInt8) (w : World) (hn : r.length = n) (h : n < 6) (hx : n ≤ x) (hm : x ≤ maxLen) (hs : Sl w w.heap.size X r) :
    Calls Try.prog 44 #[.slice X n x, .slice (some ⟨w.heap.size, 0, none⟩) 2 2] (w.alloc (.cells #[.int .i64 2, .int .i64 4] 3)) fun e w' => e = .returned (.tuple #[.slice none 0 0, .slice none 0 0, .int .i64 4]) ∧ Below w.heap.size w w' := by
  have hb := bl w (.cells #[.int .i64 2, .int .i64 4] 3)
  have h := unrow_any n 2 X (some ⟨w.heap.size, 0, none⟩) x 2 r [2, 4] _ hn rfl (by omega) hx hm (by omega) ((hs.below hb).more hb.size) (SlV.of_block (heap_alloc_new w _) rfl (by simp))
  rw [unrow_two_short (by omega)] at h
  refine h.mono ?_
  rintro e w' ⟨he, hb'⟩
  exact ⟨he, bt hb hb'⟩
/-- What Unrow answers, of an address, a stamp, and what follows. -/
def TwoNums (a s n : Nat) (e : Ending) (w' : World) : Prop := ∃ g c X x, e = .returned (.tuple #[.slice (some ⟨g, 0, none⟩) 2 c, .slice X n x, .int .i64 0]) ∧ w'.cell? ⟨g, 0, none⟩ = some (.int .i64 a) ∧ w'.cell? ⟨g, 1, none⟩ = some (.int .i64 s)
theorem unrow_long (n : Nat) (X : Option Addr) (x : Nat) (r : List UInt8) (w : World) (hn : r.length = n) (h : 6 ≤ n) (hl : n ≤ 1048576) (hx : n ≤ x) (hm : x ≤ maxLen) (hs : Sl w w.heap.size X r) :
    Calls Try.prog 44 #[.slice X n x, .slice (some ⟨w.heap.size, 0, none⟩) 2 2] (w.alloc (.cells #[.int .i64 2, .int .i64 4] 3)) fun e w' => TwoNums (num (r.take 2)) (num ((r.drop 2).take 4)) (n - 6) e w' ∧ Below w.heap.size w w' := by
  have hb := bl w (.cells #[.int .i64 2, .int .i64 4] 3)
  have h := unrow_any n 2 X (some ⟨w.heap.size, 0, none⟩) x 2 r [2, 4] _ hn rfl (by omega) hx hm (by omega) ((hs.below hb).more hb.size) (SlV.of_block (heap_alloc_new w _) rfl (by simp))
  rw [unrow_two_long (by omega)] at h
  refine h.mono ?_
  rintro e w' ⟨⟨v, u, rfl, hv, hu⟩, hb'⟩
  obtain ⟨g, c, rfl, -, -, -, -⟩ := hv.at (by simp [ints])
  obtain ⟨X', x', rfl, -, -, -, -⟩ := hu.form
  rw [List.length_drop, hn]
  exact ⟨⟨g, c, X', x', rfl, hv.cell 0 (by simp [ints]), hv.cell 1 (by simp [ints])⟩, bt hb hb'⟩

/-- What Unpart answers: both pieces, each somewhere. -/
def Pieces (base : Nat) (l r : List UInt8) (n k : Nat) (e : Ending) (w' : World) : Prop := ∃ V x U y, e = .returned (.tuple #[.slice V n x, .slice U k y, .int .i64 0]) ∧ Own w' base 5 (.slice V n x) l ∧ Lies w' U y r
theorem unpart_form (m k : Nat) (A : Option Addr) (c : Nat) (b : List UInt8) (w : World) (hlen : b.length = m) (h1 : 1 ≤ m) (hk : num (b.take 1) = k) (hkm : k ≤ m - 1) (hc : m ≤ c) (hx : c ≤ maxLen) (hl : m ≤ 1048576) (hA : Sl w w.heap.size A b) :
    Calls Try.prog 43 #[.slice A m c] w fun e w' => Pieces w.heap.size ((b.drop 1).take k) ((b.drop 1).drop k) k (m - 1 - k) e w' ∧ Below w.heap.size w w' := by
  refine (unpart_ok m k A c b w hlen h1 hk hkm hc hx (by omega) hA).mono ?_
  rintro e w' ⟨⟨v, u, rfl, hv, hu⟩, hb⟩
  have e1 : ((b.drop 1).take k).length = k := by rw [List.length_take, List.length_drop]; omega
  have e2 : ((b.drop 1).drop k).length = m - 1 - k := by rw [List.length_drop, List.length_drop]; omega
  obtain ⟨V, x, rfl, -, -, -, -⟩ := hv.form
  obtain ⟨U, y, rfl, hy1, hy2, hy3, -⟩ := hu.form
  rw [e1] at hv
  refine ⟨⟨V, x, U, y, by rw [e1, e2], hv, hy1, hy2, hy3⟩, hb⟩

theorem parse_no2 (m k n : Nat) (A : Option Addr) (c : Nat) (b : List UInt8) (w : World) (hlen : b.length = m) (h1 : 1 ≤ m) (hk : num (b.take 1) = k) (hkm : k ≤ m - 1) (hn : m - 1 - k = n) (h6 : n < 6) (hc : m ≤ c) (hx : c ≤ maxLen) (hm : m ≤ 1048576) (hA : Sl w w.heap.size A b) :
    Calls Try.prog 30 #[.slice A m c] w fun e w' => Refused 4 e ∧ Below w.heap.size w w' := by
  have h3 := three_new w (.int .i64 0) (.int .i64 0) (.slice none 0 0) 24
  have hb0 := bl w (.cells #[.int .i64 0, .int .i64 0, .slice none 0 0] 24)
  have hl : w.heap.size < (w.alloc (.cells #[.int .i64 0, .int .i64 0, .slice none 0 0] 24)).heap.size := by simp
  have cU := unpart_form m k A c b _ hlen h1 hk hkm hc hx hm ((hA.below hb0).more hb0.size)
  have hr : ((b.drop 1).drop k).length = n := by rw [List.length_drop, List.length_drop]; omega
  rw [hn] at cU
  generalize (b.drop 1).drop k = r at *
  have cR := fun (W : World) (U : Option Addr) (y : Nat) (h : Lies W U y r) => unrow_short n U y r W hr h6 (by rw [← hr]; exact h.1) h.2.1 h.2.2
  have HR := Lib.hid cR
  clear hk hlen hA hr hn cR
  go_enter Try.func30, Try.ntmps30
  go_wp2_with fail
  generalize w.alloc (.cells #[.int .i64 0, .int .i64 0, .slice none 0 0] 24) = w0 at *
  go_wp2_with (first
    | (go_at_call 43; (with_reducible refine cU.mono ?_); rintro e w1 ⟨⟨V, x, U, y, rfl, hv, hu⟩, hb1⟩)
    | (go_at_call 24; (with_reducible refine (sizes_any _).mono ?_); rintro e w2 ⟨rfl, rfl⟩)
    | (go_at_call 44; (with_reducible refine (HR.out _ _ _ hu).mono ?_); rintro e w3 ⟨rfl, hb3⟩; have k3 := h3.keep (bt hb1 hb3) hl; obtain ⟨k0, k1, k2, z0, z1, z2⟩ := id k3))
  have k4 := k3.set (.int .i64 0) (.int .i64 0) (.slice none 0 0)
  refine bodyPost_ret (v := .tuple #[.agg #[.int .i64 0, .int .i64 0, .slice none 0 0], .int .i64 4]) (by simp [results, Try.results30, go_sem, k4.c0, k4.c1, k4.c2]) rfl ⟨rfl, Three.below (bt hb0 (bt hb1 hb3)) (Nat.le_refl _) _ _ _⟩
theorem parse_no3 (m k n : Nat) (A : Option Addr) (c : Nat) (b : List UInt8) (w : World) (hlen : b.length = m) (h1 : 1 ≤ m) (hk : num (b.take 1) = k) (hkm : k ≤ m - 1) (hn : m - 1 - k = n) (h6 : 6 < n) (hc : m ≤ c) (hx : c ≤ maxLen) (hm : m ≤ 1048576) (hA : Sl w w.heap.size A b) :
    Calls Try.prog 30 #[.slice A m c] w fun e w' => Refused 4 e ∧ Below w.heap.size w w' := by
  have h3 := three_new w (.int .i64 0) (.int .i64 0) (.slice none 0 0) 24
  have hb0 := bl w (.cells #[.int .i64 0, .int .i64 0, .slice none 0 0] 24)
  have hl : w.heap.size < (w.alloc (.cells #[.int .i64 0, .int .i64 0, .slice none 0 0] 24)).heap.size := by simp
  have cU := unpart_form m k A c b _ hlen h1 hk hkm hc hx hm ((hA.below hb0).more hb0.size)
  have hr : ((b.drop 1).drop k).length = n := by rw [List.length_drop, List.length_drop]; omega
  rw [hn] at cU
  generalize (b.drop 1).drop k = r at *
  have cR := fun (W : World) (U : Option Addr) (y : Nat) (h : Lies W U y r) => unrow_long n U y r W hr (by omega) (by omega) (by rw [← hr]; exact h.1) h.2.1 h.2.2
  unfold TwoNums at cR
  obtain ⟨q, hq⟩ : ∃ q, n - 6 = q := ⟨_, rfl⟩
  have i1 : (0 : Int) < (q : Int) := by omega
  rw [hq] at cR
  have HR := Lib.hid cR
  clear hk hlen hA hr hn cR hq
  go_enter Try.func30, Try.ntmps30
  go_wp2_with fail
  generalize w.alloc (.cells #[.int .i64 0, .int .i64 0, .slice none 0 0] 24) = w0 at *
  go_wp2_with (first
    | (go_at_call 43; (with_reducible refine cU.mono ?_); rintro e w1 ⟨⟨V, x, U, y, rfl, hv, hu⟩, hb1⟩)
    | (go_at_call 24; (with_reducible refine (sizes_any _).mono ?_); rintro e w2 ⟨rfl, rfl⟩)
    | (go_at_call 44; (with_reducible refine (HR.out _ _ _ hu).mono ?_); rintro e w3 ⟨⟨g, gc, X, xc, rfl, gk0, gk1⟩, hb3⟩; have k3 := h3.keep (bt hb1 hb3) hl; obtain ⟨k0, k1, k2, z0, z1, z2⟩ := id k3))
  have k4 := k3.set (.int .i64 0) (.int .i64 0) (.slice none 0 0)
  refine bodyPost_ret (v := .tuple #[.agg #[.int .i64 0, .int .i64 0, .slice none 0 0], .int .i64 4]) (by simp [results, Try.results30, go_sem, k4.c0, k4.c1, k4.c2]) rfl ⟨rfl, Three.below (bt hb0 (bt hb1 hb3)) (Nat.le_refl _) _ _ _⟩
theorem parse_ok (m k n : Nat) (A : Option Addr) (c : Nat) (b : List UInt8) (w : World) (hlen : b.length = m) (h1 : 1 ≤ m) (hk : num (b.take 1) = k) (hkm : k ≤ m - 1) (hn : m - 1 - k = n) (h6 : n = 6) (hc : m ≤ c) (hx : c ≤ maxLen) (hm : m ≤ 1048576) (hA : Sl w w.heap.size A b) :
    Calls Try.prog 30 #[.slice A m c] w fun e w' => Opened w.heap.size ⟨0, num ((b.drop (m - 6)).take 2), num ((b.drop (m - 4)).take 4), (b.drop 1).take k⟩ e w' ∧ Below w.heap.size w w' := by
  have h3 := three_new w (.int .i64 0) (.int .i64 0) (.slice none 0 0) 24
  have hb0 := bl w (.cells #[.int .i64 0, .int .i64 0, .slice none 0 0] 24)
  have hl : w.heap.size < (w.alloc (.cells #[.int .i64 0, .int .i64 0, .slice none 0 0] 24)).heap.size := by simp
  have cU := unpart_form m k A c b _ hlen h1 hk hkm hc hx hm ((hA.below hb0).more hb0.size)
  have hr : ((b.drop 1).drop k).length = n := by rw [List.length_drop, List.length_drop]; omega
  rw [hn] at cU
  have j1 : (b.drop 1).drop k = b.drop (m - 6) := by rw [List.drop_drop]; congr 1; omega
  have j2 : b.drop (m - 4) = (b.drop (m - 6)).drop 2 := by rw [List.drop_drop]; congr 1; omega
  rw [j2, ← j1]
  have e1 : ((b.drop 1).take k).length = k := by rw [List.length_take, List.length_drop]; omega
  have E1 := Lib.hid e1
  clear j1 j2 e1
  generalize (b.drop 1).drop k = r at *
  generalize (b.drop 1).take k = p at *
  have cR := fun (W : World) (U : Option Addr) (y : Nat) (h : Lies W U y r) => unrow_long n U y r W hr (by omega) (by omega) (by rw [← hr]; exact h.1) h.2.1 h.2.2
  unfold TwoNums at cR
  subst h6
  rw [Nat.sub_self] at cR
  generalize num (r.take 2) = q1 at *
  generalize num ((r.drop 2).take 4) = q2 at *
  have HR := Lib.hid cR
  clear hk hlen hA hr hn cR
  go_enter Try.func30, Try.ntmps30
  go_wp2_with fail
  generalize w.alloc (.cells #[.int .i64 0, .int .i64 0, .slice none 0 0] 24) = w0 at *
  go_wp2_with (first
    | (go_at_call 43; (with_reducible refine cU.mono ?_); rintro e w1 ⟨⟨V, x, U, y, rfl, hv, hu⟩, hb1⟩)
    | (go_at_call 24; (with_reducible refine (sizes_any _).mono ?_); rintro e w2 ⟨rfl, rfl⟩)
    | (go_at_call 44; (with_reducible refine (HR.out _ _ _ hu).mono ?_); rintro e w3 ⟨⟨g, gc, X, xc, rfl, gk0, gk1⟩, hb3⟩; have k3 := h3.keep (bt hb1 hb3) hl; obtain ⟨k0, k1, k2, z0, z1, z2⟩ := id k3))
  go_still_tail 8, (by kernel_rfl)
  change wpList _ _ _ _ _ w3.drew
  have hb13 := bt hb1 hb3
  have k4 := k3.drew
  have hb4 := below_dr (bt hb0 hb13)
  have hv4 := (hv.below hb3).drew
  clear k0 k1 k2 z0 z1 z2 gk0 gk1 k3 h3 hb3
  generalize w3.drew = w4 at *
  obtain ⟨k0, k1, k2, z0, z1, z2⟩ := id k4
  go_wp2
  have k5 := k4.set (.int .i64 q1) (.int .i64 q2) (.slice V k x)
  refine bodyPost_ret (v := .tuple #[.agg #[.int .i64 q1, .int .i64 q2, .slice V k x], .int .i64 0]) (by simp [results, Try.results30, go_sem, k5.c0, k5.c1, k5.c2]) rfl ⟨⟨_, rfl, (own_three hv4 hl _ _ _).less hb0.size⟩, Three.below hb4 (Nat.le_refl _) _ _ _⟩

theorem Refused.opened {base err : Nat} {e : Ending} {w : World} (h : Refused err e) : Opened base (no err) e w := ⟨_, h, own_nil _ _ _⟩
/-- parse, of what stands ahead of a sum. -/
theorem parse_any (n : Nat) (A : Option Addr) (c : Nat) (b : List UInt8) (w : World) (hlen : b.length = n + 7) (hc : n + 7 ≤ c) (hx : c ≤ maxLen) (hm : n ≤ 1000) (hA : Sl w w.heap.size A b) :
    Calls Try.prog 30 #[.slice A (n + 7 : Nat) c] w fun e w' => Opened w.heap.size (if num (b.take 1) = n then ⟨0, num ((b.drop (n + 1)).take 2), num ((b.drop (n + 3)).take 4), (b.drop 1).take n⟩ else no 4) e w' ∧ Below w.heap.size w w' := by
  by_cases h : num (b.take 1) = n
  · rw [if_pos h]
    exact parse_ok (n + 7) n 6 A c b w hlen (by omega) h (by omega) (by omega) rfl hc hx (by omega) hA
  · rw [if_neg h]
    refine Calls.mono (R := fun e w' => Refused 4 e ∧ Below w.heap.size w w') ?_ (fun e w' hq => ⟨Refused.opened (err := 4) hq.1, hq.2⟩)
    by_cases h1 : n + 7 < 1 + num (b.take 1)
    · exact parse_no1 (n + 7) A c b w hlen h1 hc hx hA
    · by_cases h2 : n + 7 - 1 - num (b.take 1) < 6
      · exact parse_no2 (n + 7) _ _ A c b w hlen (by omega) rfl (by omega) rfl h2 hc hx (by omega) hA
      · exact parse_no3 (n + 7) _ _ A c b w hlen (by omega) rfl (by omega) rfl (by omega) hc hx (by omega) hA
theorem open_long (n c : Nat) (A : Option Addr) (w : World) (h : n < 11 ∨ 107 < n) :
    Calls Try.prog 12 #[.slice A n c] w fun e w' => Refused 4 e ∧ Below w.heap.size w w' := by
  have h3 := three_new w (.int .i64 0) (.int .i64 0) (.slice none 0 0) 24
  have hb0 := bl w (.cells #[.int .i64 0, .int .i64 0, .slice none 0 0] 24)
  rcases h with h | h
  · have i1 : (n : Int) < 11 := by omega
    clear h
    go_enter Try.func12, Try.ntmps12
    go_wp2
    refine bodyPost_ret (v := .tuple #[.agg #[.int .i64 0, .int .i64 0, .slice none 0 0], .int .i64 4]) (by simp [results, Try.results12, go_sem]) rfl ⟨rfl, hb0⟩
  · have i1 : ¬ (n : Int) < 11 := by omega
    have i2 : (107 : Int) < (n : Int) := by omega
    clear h
    go_enter Try.func12, Try.ntmps12
    go_wp2
    refine bodyPost_ret (v := .tuple #[.agg #[.int .i64 0, .int .i64 0, .slice none 0 0], .int .i64 4]) (by simp [results, Try.results12, go_sem]) rfl ⟨rfl, hb0⟩

theorem get_tail (m b0 off c : Nat) (b : List UInt8) (w : World) (hlen : b.length = m + 4) (hm : m ≤ 1000) (hc : m + 4 ≤ c) (hx : c ≤ maxLen) (hA : Sl w w.heap.size (some ⟨b0, off, none⟩) b) :
    Calls Try.prog 29 #[.slice (some ⟨b0, off + m, none⟩) 4 (c - m), .int .i64 4] w fun e w' => (∃ X q x, e = .returned (.tuple #[.int .i64 (num (b.drop m)), .slice X q x, .int .i64 0])) ∧ Below w.heap.size w w' := by
  have hd : (b.drop m).length = 4 := by rw [List.length_drop]; omega
  have := Go.Proofs.Ytajgkfcflbmkdaa.pck.get_ok 4 4 (some ⟨b0, off + m, none⟩) (c - m) (b.drop m) w (.inr (.inr rfl)) hd (Nat.le_refl _) (by omega) (by omega) (by omega) (hA.drop m)
  refine this.mono ?_
  rintro e w' ⟨⟨v, rfl, ho⟩, hb⟩
  obtain ⟨X, x, rfl, -, -, -, -⟩ := ho.form
  rw [List.take_of_length_le (by omega)]
  exact ⟨⟨X, _, x, rfl⟩, hb⟩
theorem of_head (m b0 off c : Nat) (b : List UInt8) (w : World) (hlen : b.length = m + 4) (hm : m ≤ 1000) (hA : Sl w w.heap.size (some ⟨b0, off, none⟩) b) :
    Calls Try.prog 28 #[.slice (some ⟨b0, off, none⟩) m c] w fun e w' => e = .returned (.int .i64 (sum (b.take m))) ∧ w = w' := by
  have ht : (b.take m).length = m := by rw [List.length_take]; omega
  have := of_any (some ⟨b0, off, none⟩) c _ (b.take m) w (hA.take m) (by unfold maxLen; omega)
  rwa [ht] at this
theorem open_sum (m b0 off c : Nat) (b : List UInt8) (w : World) (hlen : b.length = m + 4) (h7 : 7 ≤ m) (hm : m ≤ 103) (hc : m + 4 ≤ c) (hx : c ≤ maxLen) (hA : Sl w w.heap.size (some ⟨b0, off, none⟩) b) (hw : ¬ Whole b) :
    Calls Try.prog 12 #[.slice (some ⟨b0, off, none⟩) (m + 4 : Nat) c] w fun e w' => Refused 5 e ∧ Below w.heap.size w w' := by
  have h3 := three_new w (.int .i64 0) (.int .i64 0) (.slice none 0 0) 24
  have hb0 := bl w (.cells #[.int .i64 0, .int .i64 0, .slice none 0 0] 24)
  have hl : w.heap.size < (w.alloc (.cells #[.int .i64 0, .int .i64 0, .slice none 0 0] 24)).heap.size := by simp
  have i1 : ¬ (m : Int) + 4 < 11 := by omega
  have i2 : ¬ (107 : Int) < (m : Int) + 4 := by omega
  have hA0 := (hA.below hb0).more hb0.size
  have cG := get_tail m b0 off c b _ hlen (by omega) hc hx hA0
  have cO := fun (W : World) (hb : Below _ _ W) => of_head m b0 off c b W hlen (by omega) ((hA0.below hb).more hb.size)
  have hne : num (b.drop m) ≠ sum (b.take m) := by
    unfold Whole at hw
    rwa [hlen, Nat.add_sub_cancel] at hw
  generalize num (b.drop m) = x at *
  generalize sum (b.take m) = y at *
  have n1 : ((x : Int) == (y : Int)) = false := beq_eq_false_iff_ne.2 (by omega)
  have n2 : ((x : Int) != (y : Int)) = true := bne_iff_ne.2 (by omega)
  have n3 : (x == y) = false := beq_eq_false_iff_ne.2 hne
  have n4 : (x != y) = true := bne_iff_ne.2 hne
  have HO := Lib.hid cO
  clear hw hA hA0 hlen hne cO
  go_enter Try.func12, Try.ntmps12
  go_wp2_with fail
  generalize w.alloc (.cells #[.int .i64 0, .int .i64 0, .slice none 0 0] 24) = w0 at *
  go_wp2_with (first
    | (go_at_call 29; (with_reducible refine cG.mono ?_); rintro e w1 ⟨⟨X, q, xc, rfl⟩, hb1⟩; have k3 := h3.keep hb1 hl; obtain ⟨k0, k1, k2, z0, z1, z2⟩ := id k3)
    | (go_at_call 28; (with_reducible refine (HO.out _ hb1).mono ?_); rintro e w2 ⟨rfl, rfl⟩))
  have k4 := k3.set (.int .i64 0) (.int .i64 0) (.slice none 0 0)
  refine bodyPost_ret (v := .tuple #[.agg #[.int .i64 0, .int .i64 0, .slice none 0 0], .int .i64 5]) (by simp [results, Try.results12, go_sem, k4.c0, k4.c1, k4.c2]) rfl ⟨rfl, Three.below (bt hb0 hb1) (Nat.le_refl _) _ _ _⟩
/-- What Open answers, its payload's place told. -/
def OpenedAt (base : Nat) (r : Opn) (e : Ending) (w' : World) : Prop := ∃ X q x, e = .returned (.tuple #[.agg #[.int .i64 r.addr, .int .i64 r.stamp, .slice X q x], .int .i64 r.err]) ∧ Own w' base 5 (.slice X q x) r.load
theorem Opened.at {base : Nat} {r : Opn} {e : Ending} {w : World} (h : Opened base r e w) : OpenedAt base r e w := by
  obtain ⟨v, rfl, ho⟩ := h
  obtain ⟨X, x, rfl, -, -, -, -⟩ := ho.form
  exact ⟨X, _, x, rfl, ho⟩
theorem open_whole (m b0 off c : Nat) (b : List UInt8) (r : Opn) (w : World) (hlen : b.length = m + 4) (h7 : 7 ≤ m) (hm : m ≤ 103) (hc : m + 4 ≤ c) (hx : c ≤ maxLen) (hA : Sl w w.heap.size (some ⟨b0, off, none⟩) b) (hw : Whole b)
    (cP : ∀ W, Sl W W.heap.size (some ⟨b0, off, none⟩) b → Calls Try.prog 30 #[.slice (some ⟨b0, off, none⟩) m c] W fun e w' => OpenedAt W.heap.size r e w' ∧ Below W.heap.size W w') :
    Calls Try.prog 12 #[.slice (some ⟨b0, off, none⟩) (m + 4 : Nat) c] w fun e w' => Opened w.heap.size r e w' ∧ Below w.heap.size w w' := by
  have h3 := three_new w (.int .i64 0) (.int .i64 0) (.slice none 0 0) 24
  have hb0 := bl w (.cells #[.int .i64 0, .int .i64 0, .slice none 0 0] 24)
  have hl : w.heap.size < (w.alloc (.cells #[.int .i64 0, .int .i64 0, .slice none 0 0] 24)).heap.size := by simp
  have i1 : ¬ (m : Int) + 4 < 11 := by omega
  have i2 : ¬ (107 : Int) < (m : Int) + 4 := by omega
  have hA0 := (hA.below hb0).more hb0.size
  have cG := get_tail m b0 off c b _ hlen (by omega) hc hx hA0
  have cO := fun (W : World) (hb : Below _ _ W) => of_head m b0 off c b W hlen (by omega) ((hA0.below hb).more hb.size)
  have cQ := fun (W : World) (hb : Below _ _ W) => cP W ((hA0.below hb).more hb.size)
  have hne : num (b.drop m) = sum (b.take m) := by
    unfold Whole at hw
    rwa [hlen, Nat.add_sub_cancel] at hw
  rw [← hne] at cO
  generalize num (b.drop m) = x at *
  have n2 : ((x : Int) != (x : Int)) = false := bne_self_eq_false _
  obtain ⟨err, ad, st, ld⟩ := r
  unfold OpenedAt at cQ
  simp only at cQ
  have HO := Lib.hid cO
  have HQ := Lib.hid cQ
  clear hw hA hA0 hlen hne cO cP cQ
  go_enter Try.func12, Try.ntmps12
  go_wp2_with fail
  generalize w.alloc (.cells #[.int .i64 0, .int .i64 0, .slice none 0 0] 24) = w0 at *
  go_wp2_with (first
    | (go_at_call 29; (with_reducible refine cG.mono ?_); rintro e w1 ⟨⟨X, q, xc, rfl⟩, hb1⟩)
    | (go_at_call 28; (with_reducible refine (HO.out _ hb1).mono ?_); rintro e w2 ⟨rfl, rfl⟩)
    | (go_at_call 30; (with_reducible refine (HQ.out _ hb1).mono ?_); rintro e w3 ⟨⟨Y, p, y, rfl, hown⟩, hb3⟩; have k3 := h3.keep (bt hb1 hb3) hl; obtain ⟨k0, k1, k2, z0, z1, z2⟩ := id k3))
  have k4 := k3.set (.int .i64 ad) (.int .i64 st) (.slice Y p y)
  have hb13 := bt hb0 hb1
  refine bodyPost_ret (v := .tuple #[.agg #[.int .i64 ad, .int .i64 st, .slice Y p y], .int .i64 err]) (by simp [results, Try.results12, go_sem, k4.c0, k4.c1, k4.c2]) rfl ⟨⟨_, rfl, (own_three hown (Nat.lt_of_lt_of_le hl hb1.size) _ _ _).less hb13.size⟩, Three.below (bt hb13 hb3) (Nat.le_refl _) _ _ _⟩

theorem inner {b : List UInt8} {m i k : Nat} (h : i + k ≤ m) : ((b.take m).drop i).take k = (b.drop i).take k := by
  rw [List.drop_take, List.take_take, Nat.min_eq_left (by omega)]
/-- Open, whatever the bytes. -/
theorem open_any (n : Nat) (A : Option Addr) (c : Nat) (b : List UInt8) (w : World) (hlen : b.length = n) (hc : n ≤ c) (hx : c ≤ maxLen) (hA : Sl w w.heap.size A b) :
    Calls Try.prog 12 #[.slice A n c] w fun e w' => Opened w.heap.size (opened b) e w' ∧ Below w.heap.size w w' := by
  subst hlen
  by_cases h : b.length < 11 ∨ 107 < b.length
  · rw [opened_short h]
    exact (open_long _ c A w h).mono fun e w' hq => ⟨Refused.opened (err := 4) hq.1, hq.2⟩
  · obtain ⟨b0, off, rfl, -, -⟩ := hA (by omega)
    obtain ⟨n, hlen⟩ : ∃ n, b.length = n + 7 + 4 := ⟨b.length - 11, by omega⟩
    unfold opened
    rw [if_neg h]
    by_cases hw : Whole b
    · rw [if_pos hw, hlen]
      simp only [show n + 7 + 4 - 11 = n by omega, show n + 7 + 4 - 10 = n + 1 by omega, show n + 7 + 4 - 8 = n + 3 by omega]
      refine open_whole (n + 7) b0 off c b _ w hlen (by omega) (by omega) (by omega) hx hA hw fun W hW => ?_
      refine (parse_any n (some ⟨b0, off, none⟩) c (b.take (n + 7)) W (by rw [List.length_take]; omega) (by omega) hx (by omega) (hW.take _)).mono ?_
      rintro e w' ⟨ho, hb⟩
      refine ⟨Opened.at ?_, hb⟩
      have e1 : (b.take (n + 7)).take 1 = b.take 1 := by rw [List.take_take, Nat.min_eq_left (by omega)]
      rw [e1, inner (by omega), inner (by omega), inner (by omega)] at ho
      exact ho
    · rw [if_neg hw, hlen]
      exact (open_sum (n + 7) b0 off c b w hlen (by omega) (by omega) (by omega) hx hA hw).mono fun e w' hq => ⟨Refused.opened (err := 5) hq.1, hq.2⟩
end Go.Proofs.Ytajgkfcflbmkdaa.sel
