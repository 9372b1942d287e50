/-
  The program's exported functions for numbers as bytes, each by its contract. Conditions: slices shorter than 2^40.
-/
import Derived.Test.YtldknkikekaifaaPkA
namespace Go.Proofs.Ytldknkikekaifaa.pck
open Go.RowKit Go.Lib

/-- What take answers where all is right: the number, and the rest, which is a piece of what came in. -/
def Took (B k : Nat) (l : List UInt8) (e : Ending) (w' : World) : Prop :=
  ∃ b' off' c', e = .returned (.tuple #[.int .i64 (num (l.take k)), .slice (some ⟨b', off', none⟩) (l.length - k) c', .int .i64 0]) ∧ Sl w' B (some ⟨b', off', none⟩) (l.drop k) ∧ l.length - k ≤ c' ∧ c' ≤ maxLen

set_option maxRecDepth 100000 in
set_option maxHeartbeats 1000000 in
theorem take_ok (k n B : Nat) (A : Option Addr) (c : Nat) (l : List UInt8) (w : World) (hk : Sz k) (hln : l.length = n) (hkl : k ≤ n) (hc : n ≤ c) (hm : c ≤ maxLen) (hB : B ≤ w.heap.size) (hA : Sl w B A l) :
    Calls Try.prog 56 #[.slice A n c, .int .i64 k] w fun e w' => Took B k l e w' ∧ Below w.heap.size w w' := by
  have hp := hk.pos
  have h4 := hk.le4
  have cS : ∀ W, Calls Try.prog 45 #[.int .i64 0, .int .i64 k] W fun e w' => e = .returned (.tuple #[box k 0, .int .i64 0]) ∧ W = w' := fun W => sized_ok k 0 W hk (Nat.pow_pos (by omega))
  have hnl := num_lt (l.take k)
  rw [List.length_take, Nat.min_eq_left (by omega)] at hnl
  have cV := fun W => value_any k (num (l.take k)) W hk hnl
  obtain ⟨b, off, rfl, hb, hcl⟩ := hA (by omega)
  have cR : ∀ W, Below w.heap.size w W → Calls Try.prog 60 #[.slice (some ⟨b, off, none⟩) k c] W fun e w' => e = .returned (box k (num (l.take k))) ∧ Below W.heap.size W w' := fun W hW => by
    exact read_any k (some ⟨b, off, none⟩) c B (l.take k) W hk (by rw [List.length_take]; omega) ((hA.below (hW.mono hB)).take k)
  have hd : ∀ W, Below w.heap.size w W → Sl W B (some ⟨b, off + k, none⟩) (l.drop k) := fun W hW => (hA.below (hW.mono hB)).drop k
  have hT : ∀ W b' off' c', Sl W B (some ⟨b', off', none⟩) (l.drop k) → n - k ≤ c' → c' ≤ maxLen → Took B k l (.returned (.tuple #[.int .i64 (num (l.take k)), .slice (some ⟨b', off', none⟩) (n - k) c', .int .i64 0])) W := fun W b' off' c' h1 h2 h3 => ⟨b', off', c', by rw [hln], h1, by omega, h3⟩
  have hnil : c = k → ∀ W B A', Sl W B A' (l.drop k) := fun hck W B A' => by
    rw [List.drop_eq_nil_of_le (by omega)]
    exact Sl.nil _ _ _
  generalize box k (num (l.take k)) = x at *
  generalize box k 0 = x0 at *
  generalize num (l.take k) = m at *
  have i1 : (0 : Int) ≤ (k : Int) := by omega
  have i2 : (k : Int) ≤ (n : Int) := by omega
  have i3 : (k : Int) ≤ (c : Int) := by omega
  have i4 : ¬ (n : Int) < (k : Int) := by omega
  clear hA hcl hnl
  by_cases hck : c = k
  · subst hck
    obtain rfl : n = c := by omega
    clear hkl hc hln i4
    have hnil := hnil rfl
    rw [Nat.sub_self] at hT
    have e1 : ¬ (n : Int) < (n : Int) := by omega
    have e2 : (n : Int) ≤ (n : Int) := Int.le_refl _
    go_enter Try.func56, Try.ntmps56
    go_wp2_with (first
      | (go_at_call 45; (with_reducible refine (cS _).mono ?_); rintro e w1 ⟨rfl, rfl⟩))
    go_region_held3 (fun W => Below w.heap.size w W)
      (first | assumption | exact Below.refl _ _ | exact (Below.refl _ _).drew | (exact bt (by assumption) (by assumption)) | exact below_dr (by assumption))
      (first
        | (go_at_call 60; (with_reducible refine (cR _ (by assumption)).mono ?_); rintro e w2 ⟨rfl, hb2⟩)
        | (go_at_call 55; (with_reducible refine (cV _).mono ?_); rintro e w3 ⟨rfl, rfl⟩))
    all_goals
      go_wp2
      have hbw : Below w.heap.size w w2 := by first | assumption | exact bt (by assumption) (by assumption)
      go_ret3
      exact ⟨hT _ _ _ _ (hnil trivial _ _ _) (by omega) (by simp), hbw⟩
  · have i10 : ¬ (c : Int) = (k : Int) := by omega
    go_enter Try.func56, Try.ntmps56
    go_wp2_with (first
      | (go_at_call 45; (with_reducible refine (cS _).mono ?_); rintro e w1 ⟨rfl, rfl⟩))
    go_region_held3 (fun W => Below w.heap.size w W)
      (first | assumption | exact Below.refl _ _ | exact (Below.refl _ _).drew | (exact bt (by assumption) (by assumption)) | exact below_dr (by assumption))
      (first
        | (go_at_call 60; (with_reducible refine (cR _ (by assumption)).mono ?_); rintro e w2 ⟨rfl, hb2⟩)
        | (go_at_call 55; (with_reducible refine (cV _).mono ?_); rintro e w3 ⟨rfl, rfl⟩))
    all_goals
      go_wp2
      have hbw : Below w.heap.size w w2 := by first | assumption | exact bt (by assumption) (by assumption)
      go_ret3
      exact ⟨hT _ _ _ _ (hd _ hbw) (by omega) (by omega), hbw⟩

set_option maxRecDepth 100000 in
theorem take_arg (n c : Nat) (s : Int) (A : Option Addr) (w : World) (h : ¬ (s = 1 ∨ s = 2 ∨ s = 4)) :
    Calls Try.prog 56 #[.slice A n c, .int .i64 s] w fun e w' => e = .returned (.tuple #[.int .i64 0, .slice none 0 0, .int .i64 1]) ∧ w = w' := by
  have cS := fun W => sized_not 0 s W h
  clear h
  go_enter Try.func56, Try.ntmps56
  go_wp2_with (first
    | (go_at_call 45; (with_reducible refine (cS _).mono ?_); rintro e w1 ⟨rfl, rfl⟩))
  go_ret3
  exact ⟨rfl, rfl⟩
set_option maxRecDepth 100000 in
theorem take_short (n c k : Nat) (A : Option Addr) (w : World) (hk : Sz k) (h : n < k) :
    Calls Try.prog 56 #[.slice A n c, .int .i64 k] w fun e w' => e = .returned (.tuple #[.int .i64 0, .slice none 0 0, .int .i64 4]) ∧ w = w' := by
  have cS : ∀ W, Calls Try.prog 45 #[.int .i64 0, .int .i64 k] W fun e w' => e = .returned (.tuple #[box k 0, .int .i64 0]) ∧ W = w' := fun W => sized_ok k 0 W hk (Nat.pow_pos (by omega))
  generalize box k 0 = x at *
  have i1 : (n : Int) < (k : Int) := by omega
  clear hk h
  go_enter Try.func56, Try.ntmps56
  go_wp2_with (first
    | (go_at_call 45; (with_reducible refine (cS _).mono ?_); rintro e w1 ⟨rfl, rfl⟩))
  go_ret3
  exact ⟨rfl, rfl⟩

theorem nil_eq (n c : Nat) (W : World) : (binOp .eql 27 (.slice none n c) (.slice none 0 0)).run Try.prog W = .ok (.bool true) W := by kernel_rfl
theorem some_eq (a : Addr) (n c : Nat) (W : World) : (binOp .eql 27 (.slice (some a) n c) (.slice none 0 0)).run Try.prog W = .ok (.bool false) W := by kernel_rfl
set_option maxRecDepth 100000 in
theorem clone_any (A : Option Addr) (c B n : Nat) (l : List UInt8) (w : World) (hln : l.length = n) (hA : Sl w B A l) (hl : n ≤ 1099511627776) :
    Calls Try.prog 57 #[.slice A n c] w fun e w' => One w.heap.size l e w' ∧ Below w.heap.size w w' := by
  cases A with
  | none =>
    have h0 : l = [] := List.eq_nil_of_length_eq_zero (by
      rcases Nat.eq_zero_or_pos l.length with h | h
      · exact h
      · obtain ⟨b, off, he, _⟩ := hA h
        cases he)
    subst h0
    subst hln
    have q := nil_eq
    go_enter Try.func57, Try.ntmps57
    go_wp2
    go_ret
    exact ⟨⟨_, rfl, own_nil _ _ _⟩, Below.refl _ _⟩
  | some a =>
    have hsrc : ∀ o : Obj, Src Try.prog 1 27 (.slice (some a) n c) l.length (cells8 l) (w.alloc o) := fun o => by
      subst hln
      by_cases h0 : 0 < l.length
      · obtain ⟨b, off, ha, hb, hc⟩ := hA h0
        have hlt : b < w.heap.size := World.block_lt_of_cell? w ⟨b, off + 0, none⟩ (hc 0 h0)
        have hA' : Sl w w.heap.size (some a) l := fun _ => ⟨b, off, ha, hlt, hc⟩
        exact ((hA'.below ((Below.refl _ _).alloc (Nat.le_refl _) o)).more (Nat.le_refl _)).src Try.underlying27 c
      · have : l = [] := List.eq_nil_of_length_eq_zero (by omega)
        subst this
        exact (Sl.nil _ 0 _).src Try.underlying27 c
    have q := some_eq
    go_enter Try.func57, Try.ntmps57
    go_wp2_with (first
      | (at_builtin
         refine wpList_app8 _ rfl (.tmp 5) (.tmp 6) _ _ rfl w.heap.size 5 t8 (.slice (some ⟨w.heap.size, 0, none⟩) 0 0) [] rfl (own_made _ _ 0 _ #[] (Nat.le_refl _) (by simp) rfl) _ l rfl (hsrc _) ?_ ?_ ?_
         · simp only [List.length_nil]; omega
         · simp
         intro v2 w2 hown2 hg2 hat2))
    go_ret
    exact ⟨⟨v2, rfl, hown2⟩, ((Below.refl _ _).alloc (Nat.le_refl _) _).grown hg2 (by simp) (fun q hq => by cases hq; exact Nat.le_refl _)⟩

/-- What Put, Row and Part answer where all is right. -/
def Put (base : Nat) (l : List UInt8) (e : Ending) (w' : World) : Prop := ∃ v, e = .returned (.tuple #[v, .int .i64 0]) ∧ Own w' base 5 v l
theorem make0 (cap base : Nat) (W : World) (hc : cap ≤ 1099511627776) (hb : base ≤ W.heap.size) :
    ∃ w', (Instr.makeSlice 27 (.int .i64 0) (.int .i64 (cap : Int))).run Try.prog W = .ok (.slice (some ⟨W.heap.size, 0, none⟩) 0 cap) w' ∧
      Own w' base 5 (.slice (some ⟨W.heap.size, 0, none⟩) 0 cap) [] ∧ W.grownBy w' none := by
  obtain ⟨ht, _, i, hi, hz, h1, hb8⟩ := t8
  obtain ⟨w', hr, ho, hg⟩ := run_make_own (P := Try.prog) W base 27 5 i (.int .u8 0) 1 ht hi hz h1 .i64 .i64 cap (by rw [hb8]; omega) (by unfold maxLen; omega) hb
  exact ⟨w', hr, ho, hg⟩
theorem own_far {w : World} {base : Nat} {e : TypeId} {v : Value} {l : List UInt8} (h : Own w base e v l) : ∀ q, v.ownBlock = some q → base ≤ q := fun q hq => (World.ownsRow.lt h q hq).1

/-- What Get answers where all is right. -/
def Got (base k : Nat) (l : List UInt8) (e : Ending) (w' : World) : Prop := ∃ v, e = .returned (.tuple #[.int .i64 (num (l.take k)), v, .int .i64 0]) ∧ Own w' base 5 v (l.drop k)
/-- What Unpart answers where all is right. -/
def Parted (base : Nat) (l r : List UInt8) (e : Ending) (w' : World) : Prop := ∃ v u, e = .returned (.tuple #[v, u, .int .i64 0]) ∧ Own w' base 5 v l ∧ Own w' base 5 u r
end Go.Proofs.Ytldknkikekaifaa.pck
