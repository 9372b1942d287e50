/-
  When each cell is met by who counts all addresses, kind by kind (plain mathematics), and the slice that counts them. Conditions: a right geometry.
-/
import Derived.Test.YthbjfpgcinmjiaaDoorGGm
import Derived.Test.YthbjfpgcinmjiaaDoorKeepInts
namespace Go.Proofs.YthbjfpgcinmjiaaDoor.gmt
open Go.RowKit Go.Lib

theorem uniq {p y q r : Int} (hp : 0 < p) (h0 : 0 ≤ r) (h1 : r < p) (h : y = q * p + r) : y / p = q ∧ y % p = r := by
  subst h
  constructor
  · rw [Int.add_comm, Int.add_mul_ediv_right _ _ (by omega), Int.ediv_eq_zero_of_lt h0 h1, Int.zero_add]
  · rw [Int.add_comm, Int.add_mul_emod_self_right, Int.emod_eq_of_lt h0 h1]

/-- When a cell is met: 30 numbers to each round. -/
def hit (z d s l a x : Int) : Int :=
  if x < a then x
  else if x < a + 2 * l then 30 * ((x - a) / l) + (x - a) % l
  else if x < a + 2 * l + 2 * z then 30 * ((x - (a + 2 * l)) / 2) + (x - (a + 2 * l)) % 2
  else 30 * ((x - (a + 2 * l + 2 * z)) / (d + 1 + s)) + (x - (a + 2 * l + 2 * z)) % (d + 1 + s)

theorem hit_iff {z d s l a x i k : Int} (ho : Ok z d s l a) (hx : 0 ≤ x ∧ x < a + 2 * l + 2 * z + z * (d + 1 + s)) (hi : 0 ≤ i ∧ i < 4) (hk : 0 ≤ k ∧ k < 30) :
    (hit z d s l a x = 30 * i + k ↔ (i < 2 ∧ k < l ∧ x = a + i * l + k) ∨ (i < z ∧ k < 2 ∧ x = a + 2 * l + i * 2 + k) ∨ (i < z ∧ k < d + 1 + s ∧ x = a + 2 * l + 2 * z + i * (d + 1 + s) + k) ∨ (i = 0 ∧ k < a ∧ x = k))
    ∧ 0 ≤ hit z d s l a x ∧ hit z d s l a x < 120 := by
  have hp := per_le ho
  obtain ⟨h1, h2, h3, h4, h5⟩ := ho
  unfold hit
  generalize d + 1 + s = p at *
  have il := mul_le (i := i) (n := 3) (p := l) (P := 30) (by omega) (by omega) (by omega) (by omega)
  have ip := mul_le (i := i) (n := 3) (p := p) (P := 7) (by omega) (by omega) (by omega) (by omega)
  have il2 : i < 2 → i * l ≤ l := fun h => by
    obtain rfl | rfl : i = 0 ∨ i = 1 := by omega
    · omega
    · omega
  split
  · omega
  split
  · have e := Int.ediv_mul_add_emod (x - a) l
    have u := uniq (p := l) (y := x - a) (q := i) (r := k) (by omega) hk.1
    have q0 := Int.ediv_nonneg (show 0 ≤ x - a by omega) (show 0 ≤ l by omega)
    have q1 : (x - a) / l < 2 := Int.ediv_lt_of_lt_mul (by omega) (by omega)
    have r0 := Int.emod_nonneg (x - a) (show l ≠ 0 by omega)
    have r1 := Int.emod_lt_of_pos (x - a) (show 0 < l by omega)
    generalize (x - a) / l = q at *
    generalize (x - a) % l = r at *
    refine ⟨⟨fun h => ?_, fun h => ?_⟩, by omega, by omega⟩
    · obtain ⟨rfl, rfl⟩ : q = i ∧ r = k := by omega
      exact .inl ⟨by omega, by omega, by omega⟩
    · rcases h with h | h | h | h
      · obtain ⟨rfl, rfl⟩ := u h.2.1 (by omega)
        rfl
      · omega
      · omega
      · omega
  split
  · have q0 : 0 ≤ (x - (a + 2 * l)) / 2 := by omega
    refine ⟨⟨fun h => ?_, fun h => ?_⟩, by omega, by omega⟩
    · exact .inr (.inl ⟨by omega, by omega, by omega⟩)
    · rcases h with h | h | h | h
      · have := il2 h.1
        omega
      · omega
      · omega
      · omega
  · have e := Int.ediv_mul_add_emod (x - (a + 2 * l + 2 * z)) p
    have u := uniq (p := p) (y := x - (a + 2 * l + 2 * z)) (q := i) (r := k) (by omega) hk.1
    have q0 := Int.ediv_nonneg (show 0 ≤ x - (a + 2 * l + 2 * z) by omega) (show 0 ≤ p by omega)
    have q1 : (x - (a + 2 * l + 2 * z)) / p < z := Int.ediv_lt_of_lt_mul (by omega) (by omega)
    have r0 := Int.emod_nonneg (x - (a + 2 * l + 2 * z)) (show p ≠ 0 by omega)
    have r1 := Int.emod_lt_of_pos (x - (a + 2 * l + 2 * z)) (show 0 < p by omega)
    generalize (x - (a + 2 * l + 2 * z)) / p = q at *
    generalize (x - (a + 2 * l + 2 * z)) % p = r at *
    refine ⟨⟨fun h => ?_, fun h => ?_⟩, by omega, by omega⟩
    · obtain ⟨rfl, rfl⟩ : q = i ∧ r = k := by omega
      exact .inr (.inr (.inl ⟨by omega, by omega, by omega⟩))
    · rcases h with h | h | h | h
      · have := il2 h.1
        omega
      · omega
      · obtain ⟨rfl, rfl⟩ := u h.2.1 (by omega)
        rfl
      · omega

/-- Met once more. -/
def bump (f : Nat → Int) (A : Nat) : Nat → Int := fun x => if x = A then f x + 1 else f x
/-- How often each cell is met up to now. -/
def Met (z d s l a : Int) (N : Nat) (t : Int) (f : Nat → Int) : Prop := ∀ x, x < N → f x = if hit z d s l a (x : Int) < t then 1 else 0
def bumpIf (b : Bool) (f : Nat → Int) (A : Nat) : Nat → Int := if b then bump f A else f
theorem bumpIf_get (b : Bool) (f : Nat → Int) (A x : Nat) : bumpIf b f A x = f x + if b = true ∧ x = A then 1 else 0 := by
  unfold bumpIf bump
  cases b with
  | false => simp
  | true => by_cases h : x = A <;> simp [h]
/-- Whether it is told, and where. -/
def At (R : Prop) (v : Int) (N : Nat) (b : Bool) (A : Nat) (n e : Int) : Prop := (b = true ↔ R) ∧ (b = true → n = (A : Int) ∧ e = 0 ∧ (A : Int) = v ∧ A < N) ∧ (b = false → n = 0 ∧ e = 1)
theorem at_of {R : Prop} {v : Int} {N : Nat} (hv : R → 0 ≤ v ∧ v < N) : ∃ b A n e, At R v N b A n e ∧ Told R v 1 n e := by
  by_cases h : R
  · obtain ⟨h0, h1⟩ := hv h
    refine ⟨true, v.toNat, v, 0, ⟨iff_of_true rfl h, fun _ => ⟨by omega, rfl, by omega, by omega⟩, (fun h => by cases h)⟩, fun _ => ⟨rfl, rfl⟩, fun k => absurd h k⟩
  · exact ⟨false, 0, 0, 1, ⟨iff_of_false Bool.false_ne_true h, (fun h => by cases h), fun _ => ⟨rfl, rfl⟩⟩, fun k => absurd k h, fun _ => ⟨rfl, rfl⟩⟩

theorem sum_once {P1 P2 P3 P4 : Prop} [Decidable P1] [Decidable P2] [Decidable P3] [Decidable P4] {H t : Int} (hh : H = t ↔ P1 ∨ P2 ∨ P3 ∨ P4)
    (x12 : P1 → P2 → False) (x13 : P1 → P3 → False) (x14 : P1 → P4 → False) (x23 : P2 → P3 → False) (x24 : P2 → P4 → False) (x34 : P3 → P4 → False) :
    (if H < t then (1 : Int) else 0) + (if P1 then 1 else 0) + (if P2 then 1 else 0) + (if P3 then 1 else 0) + (if P4 then 1 else 0) = if H < t + 1 then 1 else 0 := by
  by_cases h1 : P1
  · have := hh.2 (.inl h1)
    rw [if_neg (by omega), if_pos h1, if_neg (fun h => x12 h1 h), if_neg (fun h => x13 h1 h), if_neg (fun h => x14 h1 h), if_pos (by omega)]
    rfl
  by_cases h2 : P2
  · have := hh.2 (.inr (.inl h2))
    rw [if_neg (by omega), if_neg h1, if_pos h2, if_neg (fun h => x23 h2 h), if_neg (fun h => x24 h2 h), if_pos (by omega)]
    rfl
  by_cases h3 : P3
  · have := hh.2 (.inr (.inr (.inl h3)))
    rw [if_neg (by omega), if_neg h1, if_neg h2, if_pos h3, if_neg (fun h => x34 h3 h), if_pos (by omega)]
    rfl
  by_cases h4 : P4
  · have := hh.2 (.inr (.inr (.inr h4)))
    rw [if_neg (by omega), if_neg h1, if_neg h2, if_neg h3, if_pos h4, if_pos (by omega)]
    rfl
  · have hn : H ≠ t := fun h => by rcases hh.1 h with h | h | h | h <;> contradiction
    rw [if_neg h1, if_neg h2, if_neg h3, if_neg h4]
    by_cases h : H < t
    · rw [if_pos h, if_pos (by omega)]; rfl
    · rw [if_neg h, if_neg (by omega)]; rfl

theorem Met.next {z d s l a i k : Int} {N : Nat} {f : Nat → Int} (hm : Met z d s l a N (30 * i + k) f) (ho : Ok z d s l a) (hN : a + 2 * l + 2 * z + z * (d + 1 + s) = N) (hi : 0 ≤ i ∧ i < 4) (hk : 0 ≤ k ∧ k < 30)
    {b1 b2 b3 b4 b5 : Bool} {A1 A2 A3 A4 : Nat} {n1 e1 n2 e2 n3 e3 n4 e4 : Int}
    (t1 : At ((0 ≤ i ∧ i < 2) ∧ 0 ≤ k ∧ k < l) (a + i * l + k) N b1 A1 n1 e1) (t2 : At ((0 ≤ i ∧ i < z) ∧ 0 ≤ k ∧ k < 2) (a + 2 * l + i * 2 + k) N b2 A2 n2 e2)
    (t3 : At ((0 ≤ i ∧ i < z) ∧ 0 ≤ k ∧ k < d + 1 + s) (a + 2 * l + 2 * z + i * (d + 1 + s) + k) N b3 A3 n3 e3) (t4 : At (0 ≤ k ∧ k < a) k N b4 A4 n4 e4) (h5 : b5 = true ↔ b4 = true ∧ i = 0) :
    Met z d s l a N (30 * i + (k + 1)) (bumpIf b5 (bumpIf b3 (bumpIf b2 (bumpIf b1 f A1) A2) A3) A4) := by
  intro x hx
  have hh := (hit_iff (x := (x : Int)) ho (by omega) hi hk).1
  have hb := hm x hx
  have hp := per_le ho
  obtain ⟨g1, g2, g3, g4, g5⟩ := ho
  generalize d + 1 + s = p at *
  have il := mul_le (i := i) (n := 3) (p := l) (P := 30) (by omega) (by omega) (by omega) (by omega)
  have ip := mul_le (i := i) (n := 3) (p := p) (P := 7) (by omega) (by omega) (by omega) (by omega)
  have il2 : i < 2 → i * l ≤ l := fun h => by
    obtain rfl | rfl : i = 0 ∨ i = 1 := by omega
    · omega
    · omega
  have i1 := t1.1
  have i2 := t2.1
  have i3 := t3.1
  have i4 := t4.1
  have v1 := t1.2.1
  have v2 := t2.2.1
  have v3 := t3.2.1
  have v4 := t4.2.1
  clear t1 t2 t3 t4 hm
  rw [bumpIf_get, bumpIf_get, bumpIf_get, bumpIf_get, hb]
  generalize hit z d s l a (x : Int) = H at *
  generalize i * l = IL at *
  generalize i * p = IP at *
  have c1 : (b1 = true ∧ x = A1) ↔ (i < 2 ∧ k < l ∧ (x : Int) = a + IL + k) := by
    constructor
    · rintro ⟨h, rfl⟩; obtain ⟨-, -, h', -⟩ := v1 h; have := i1.1 h; exact ⟨by omega, by omega, h'⟩
    · rintro ⟨h, h', h''⟩; have hb := i1.2 ⟨⟨by omega, h⟩, by omega, h'⟩; exact ⟨hb, by have := v1 hb; omega⟩
  have c2 : (b2 = true ∧ x = A2) ↔ (i < z ∧ k < 2 ∧ (x : Int) = a + 2 * l + i * 2 + k) := by
    constructor
    · rintro ⟨h, rfl⟩; obtain ⟨-, -, h', -⟩ := v2 h; have := i2.1 h; exact ⟨by omega, by omega, h'⟩
    · rintro ⟨h, h', h''⟩; have hb := i2.2 ⟨⟨by omega, h⟩, by omega, h'⟩; exact ⟨hb, by have := v2 hb; omega⟩
  have c3 : (b3 = true ∧ x = A3) ↔ (i < z ∧ k < p ∧ (x : Int) = a + 2 * l + 2 * z + IP + k) := by
    constructor
    · rintro ⟨h, rfl⟩; obtain ⟨-, -, h', -⟩ := v3 h; have := i3.1 h; exact ⟨by omega, by omega, h'⟩
    · rintro ⟨h, h', h''⟩; have hb := i3.2 ⟨⟨by omega, h⟩, by omega, h'⟩; exact ⟨hb, by have := v3 hb; omega⟩
  have c4 : (b5 = true ∧ x = A4) ↔ (i = 0 ∧ k < a ∧ (x : Int) = k) := by
    constructor
    · rintro ⟨h, rfl⟩; obtain ⟨h, h0⟩ := h5.1 h; obtain ⟨-, -, h', -⟩ := v4 h; have := i4.1 h; exact ⟨h0, by omega, h'⟩
    · rintro ⟨h, h', h''⟩; have hb := i4.2 ⟨by omega, h'⟩; exact ⟨h5.2 ⟨hb, h⟩, by have := v4 hb; omega⟩
  clear i1 i2 i3 i4 v1 v2 v3 v4 h5 hb
  simp only [c1, c2, c3, c4]
  clear c1 c2 c3 c4
  rw [show 30 * i + (k + 1) = 30 * i + k + 1 by omega]
  have d1 : (i < 2 ∧ k < l ∧ (x : Int) = a + IL + k) → a ≤ x ∧ (x : Int) < a + 2 * l := fun h => by have := il2 h.1; omega
  have d2 : (i < z ∧ k < 2 ∧ (x : Int) = a + 2 * l + i * 2 + k) → a + 2 * l ≤ x ∧ (x : Int) < a + 2 * l + 2 * z := fun h => by omega
  have d3 : (i < z ∧ k < p ∧ (x : Int) = a + 2 * l + 2 * z + IP + k) → a + 2 * l + 2 * z ≤ x := fun h => by omega
  have d4 : (i = 0 ∧ k < a ∧ (x : Int) = k) → (x : Int) < a := fun h => by omega
  exact sum_once hh (fun h h' => by have := d1 h; have := d2 h'; omega) (fun h h' => by have := d1 h; have := d3 h'; omega) (fun h h' => by have := d1 h; have := d4 h'; omega) (fun h h' => by have := d2 h; have := d3 h'; omega) (fun h h' => by have := d2 h; have := d4 h'; omega) (fun h h' => by have := d3 h; have := d4 h'; omega)
end Go.Proofs.YthbjfpgcinmjiaaDoor.gmt
