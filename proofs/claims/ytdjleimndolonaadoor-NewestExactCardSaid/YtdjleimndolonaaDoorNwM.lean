/-
  What a reading says of an anchor, and which of many is the newest: plain mathematics. No condition beyond each law's own.
-/
import Derived.Test.YtdjleimndolonaaDoorGAm
import Derived.Test.YtdjleimndolonaaDoorGSl
namespace Go.Proofs.YtdjleimndolonaaDoor.nwt
open Go.RowKit Go.Lib
open Go.Proofs.YtdjleimndolonaaDoor.gmt (Ok)
open Go.Proofs.YtdjleimndolonaaDoor.anc (Anc noAnc good_b encA encA_len good_enc)
open Go.Proofs.YtdjleimndolonaaDoor.lbl (lab_len)
open Go.Proofs.YtdjleimndolonaaDoor.sel (enc opened enc_inj opened_enc enc_opened enc_length)

theorem enc96 {z d s l a : Int} {X : Anc} (ho : Ok z d s l a) (h : anc.Good z d s l X) : (encA X).length ≤ 96 ∧ 25 ≤ (encA X).length ∧ 0 ≤ X.gen ∧ X.gen < 4294967296 := by
  have h1 := encA_len (good_b ho h)
  have h2 : X.lab.size ≤ 24 := by have h9 : X.lab.data.toList.length ≤ 24 := lab_len h.2.2.2.2.2.2.1; rwa [size_list] at h9
  obtain ⟨o1, o2, -⟩ := ho
  have h3 := Nat.mul_le_mul (show z.toNat ≤ 4 by omega) (show d.toNat + 6 ≤ 10 by omega)
  have h4 := Nat.mul_le_mul (show 1 ≤ z.toNat by omega) (show 7 ≤ d.toNat + 6 by omega)
  have h5 : (encA X).length = 18 + X.lab.size + z.toNat * (d.toNat + 6) := h1
  have h6 := h.1
  refine ⟨by omega, by omega, by omega, by omega⟩
/-- A reading of error e and bytes b says the anchor X of the address addr. -/
def Says (z d s l : Int) (e : Int) (b : List UInt8) (addr : Int) (X : Anc) : Prop := e = 0 ∧ 0 ≤ addr ∧ addr < 65536 ∧ anc.Good z d s l X ∧ b = enc addr.toNat X.gen.toNat (encA X)
theorem says_one {z d s l a e addr : Int} {b : List UInt8} {X Y : Anc} (ho : Ok z d s l a) (h : Says z d s l e b addr X) (k : Says z d s l e b addr Y) : X = Y := by
  obtain ⟨-, h1, h2, h3, h4⟩ := h
  obtain ⟨-, -, -, k3, k4⟩ := k
  obtain ⟨p1, -, p2, p3⟩ := enc96 ho h3
  obtain ⟨q1, -, q2, q3⟩ := enc96 ho k3
  have := enc_inj (by omega) (by omega) p1 (by omega) (by omega) q1 (h4.symm.trans k4)
  exact (good_enc ho h3 k3).1 this.2.2
open Classical in
/-- What a reading says. -/
noncomputable def sayO (z d s l : Int) (e : Int) (b : List UInt8) (addr : Int) : Option Anc := if h : ∃ X, Says z d s l e b addr X then some h.choose else none
theorem sayO_some {z d s l a e addr : Int} {b : List UInt8} {X : Anc} (ho : Ok z d s l a) (h : Says z d s l e b addr X) : sayO z d s l e b addr = some X := by
  have hx : ∃ X, Says z d s l e b addr X := ⟨X, h⟩
  unfold sayO
  rw [dif_pos hx, says_one ho hx.choose_spec h]
theorem sayO_none {z d s l e addr : Int} {b : List UInt8} (h : ∀ X, ¬ Says z d s l e b addr X) : sayO z d s l e b addr = none := by
  unfold sayO
  rw [dif_neg fun ⟨X, hX⟩ => h X hX]
theorem sayO_says {z d s l e addr : Int} {b : List UInt8} {X : Anc} (h : sayO z d s l e b addr = some X) : Says z d s l e b addr X := by
  unfold sayO at h
  split at h
  · rename_i hx
    rw [← Option.some.inj h]
    exact hx.choose_spec
  · cases h
/-- Of bytes that are opened. -/
theorem says_opened {z d s l a addr : Int} {b : List UInt8} {X : Anc} (ho : Ok z d s l a) : Says z d s l 0 b addr X ↔ (opened b).err = 0 ∧ ((opened b).addr : Int) = addr ∧ (opened b).load = encA X ∧ anc.Good z d s l X ∧ X.gen = ((opened b).stamp : Int) := by
  constructor
  · rintro ⟨-, h1, h2, h3, h4⟩
    obtain ⟨p1, -, p2, p3⟩ := enc96 ho h3
    have := opened_enc (a := addr.toNat) (s := X.gen.toNat) (by omega) (by omega) p1
    rw [h4, this]
    exact ⟨rfl, by show ((addr.toNat : Nat) : Int) = addr; omega, rfl, h3, by show X.gen = ((X.gen.toNat : Nat) : Int); omega⟩
  · rintro ⟨h1, h2, h3, h4, h5⟩
    obtain ⟨k1, k2, -, -⟩ := enc_opened h1
    refine ⟨rfl, by omega, by omega, h4, ?_⟩
    rw [← h2, h5, Int.toNat_natCast, Int.toNat_natCast, ← h3, k1]

/-- The newest of the first k. -/
def stepN (acc : Option (Anc × Nat)) (i : Nat) (o : Option Anc) : Option (Anc × Nat) :=
  match o with
  | none => acc
  | some a => match acc with
    | none => some (a, i)
    | some (c, j) => if c.gen < a.gen then some (a, i) else some (c, j)
def newN (f : Nat → Option Anc) : Nat → Option (Anc × Nat)
  | 0 => none
  | k + 1 => stepN (newN f k) k (f k)
theorem newN_lt {f : Nat → Option Anc} : ∀ {n : Nat} {X : Anc} {i : Nat}, newN f n = some (X, i) → i < n ∧ f i = some X
  | 0, X, i, h => by cases h
  | n + 1, X, i, h => by
    unfold newN stepN at h
    split at h
    · have := newN_lt h
      exact ⟨by omega, this.2⟩
    · rename_i a ha
      split at h
      · simp only [Option.some.injEq, Prod.mk.injEq] at h
        obtain ⟨rfl, rfl⟩ := h
        exact ⟨by omega, ha⟩
      · rename_i c j hc
        split at h
        · simp only [Option.some.injEq, Prod.mk.injEq] at h
          obtain ⟨rfl, rfl⟩ := h
          exact ⟨by omega, ha⟩
        · simp only [Option.some.injEq, Prod.mk.injEq] at h
          obtain ⟨rfl, rfl⟩ := h
          have := newN_lt hc
          exact ⟨by omega, this.2⟩
theorem newN_none {f : Nat → Option Anc} : ∀ {n : Nat}, newN f n = none ↔ ∀ i, i < n → f i = none
  | 0 => ⟨fun _ i h => by omega, fun _ => rfl⟩
  | n + 1 => by
    constructor
    · intro h i hi
      unfold newN stepN at h
      split at h
      · rename_i ho
        rcases Nat.lt_or_ge i n with k | k
        · exact newN_none.1 h i k
        · obtain rfl : i = n := by omega
          exact ho
      · split at h
        · cases h
        · split at h <;> cases h
    · intro h
      unfold newN
      rw [h n (by omega), newN_none.2 fun i hi => h i (by omega)]
      rfl
theorem newN_same {f g : Nat → Option Anc} : ∀ {n : Nat}, (∀ i, i < n → f i = g i) → newN f n = newN g n
  | 0, _ => rfl
  | n + 1, h => by
    unfold newN
    rw [h n (by omega), newN_same fun i hi => h i (by omega)]
end Go.Proofs.YtdjleimndolonaaDoor.nwt
