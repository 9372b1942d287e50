/-
  The program's exported functions for numbers as bytes, each by its contract. Conditions: slices shorter than 2^40.
-/
import Derived.Test.YtajgkfcflbmkdaaPkA
namespace Go.Proofs.Ytajgkfcflbmkdaa.pck
open Go.RowKit Go.Lib

/-- What take answers where all is right: the number, and the rest, which is a piece of what came in. -/
def Took (B k : Nat) (l : List UInt8) (e : Ending) (w' : World) : Prop :=
  ∃ b' off' c', e = .returned (.tuple #[.int .i64 (num (l.take k)), .slice (some ⟨b', off', none⟩) (l.length - k) c', .int .i64 0]) ∧ Sl w' B (some ⟨b', off', none⟩) (l.drop k) ∧ l.length - k ≤ c' ∧ c' ≤ maxLen

set_option maxHeartbeats 1000000 in
theorem take_ok (k n B : Nat) (A : Option Addr) (c : Nat) (l : List UInt8) (w : World) (hk : Sz k) (hln : l.length = n) (hkl : k ≤ n) (hc : n ≤ c) (hm : c ≤ maxLen) (hB : B ≤ w.heap.size) (hA : Sl w B A l) :
    Calls Try.prog 42 #[.slice A n c, .int .i64 k] w fun e w' => Took B k l e w' ∧ Below w.heap.size w w' := by
  have hp := hk.pos
  have h4 := hk.le4
  have cS : ∀ W, Calls Try.prog 37 #[.int .i64 0, .int .i64 k] W fun e w' => e = .returned (.tuple #[box k 0, .int .i64 0]) ∧ W = w' := fun W => sized_ok k 0 W hk (Nat.pow_pos (by omega))
  have hnl := num_lt (l.take k)
  rw [List.length_take, Nat.min_eq_left (by omega)] at hnl
  have cV := fun W => value_any k (num (l.take k)) W hk hnl
  obtain ⟨b, off, rfl, hb, hcl⟩ := hA (by omega)
  have cR : ∀ W, Below w.heap.size w W → Calls Try.prog 48 #[.slice (some ⟨b, off, none⟩) k c] W fun e w' => e = .returned (box k (num (l.take k))) ∧ Below W.heap.size W w' := fun W hW => by
    exact read_any k (some ⟨b, off, none⟩) c B (l.take k) W hk (by rw [List.length_take]; omega) ((hA.below (hW.mono hB)).take k)
  have hd : ∀ W, Below w.heap.size w W → Sl W B (some ⟨b, off + k, none⟩) (l.drop k) := fun W hW => (hA.below (hW.mono hB)).drop k
  have hT : ∀ W b' off' c', Sl W B (some ⟨b', off', none⟩) (l.drop k) → n - k ≤ c' → c' ≤ maxLen → Took B k l (.returned (.tuple #[.int .i64 (num (l.take k)), .slice (some ⟨b', off', none⟩) (n - k) c', .int .i64 0])) W := fun W b' off' c' h1 h2 h3 => ⟨b', off', c', by rw [hln], h1, by omega, h3⟩
  have hnil : c = k → ∀ W B A', Sl W B A' (l.drop k) := fun hck W B A' => by
    rw [List.drop_eq_nil_of_le (by omega)]
    exact Sl.nil _ _ _
  generalize box k (num (l.take k)) = x at *
  generalize box k 0 = x0 at *
  generalize num (l.take k) = m at *
  have i1 : (0 : Int) ≤ (k : Int) := by omega
  have i2 : (k : Int) ≤ (n : Int) := by omega
  have i3 : (k : Int) ≤ (c : Int) := by omega
  have i4 : ¬ (n : Int) < (k : Int) := by omega
  clear hA hcl hnl
  by_cases hck : c = k
  · subst hck
    obtain rfl : n = c := by omega
    clear hkl hc hln i4
    have hnil := hnil rfl
    rw [Nat.sub_self] at hT
    have e1 : ¬ (n : Int) < (n : Int) := by omega
    have e2 : (n : Int) ≤ (n : Int) := Int.le_refl _
    go_enter Try.func42, Try.ntmps42
    go_wp2_with (first
      | (go_at_call 37; (with_reducible refine (cS _).mono ?_); rintro e w1 ⟨rfl, rfl⟩))
    go_region_held3 (fun W => Below w.heap.size w W)
      (first | assumption | exact Below.refl _ _ | exact (Below.refl _ _).drew | (exact bt (by assumption) (by assumption)) | exact below_dr (by assumption))
      (first
        | (go_at_call 48; (with_reducible refine (cR _ (by assumption)).mono ?_); rintro e w2 ⟨rfl, hb2⟩)
        | (go_at_call 46; (with_reducible refine (cV _).mono ?_); rintro e w3 ⟨rfl, rfl⟩))
    all_goals
      go_wp2
      have hbw : Below w.heap.size w w2 := by first | assumption | exact bt (by assumption) (by assumption)
      go_ret3
      exact ⟨hT _ _ _ _ (hnil trivial _ _ _) (by omega) (by simp), hbw⟩
  · have i10 : ¬ (c : Int) = (k : Int) := by omega
    go_enter Try.func42, Try.ntmps42
    go_wp2_with (first
      | (go_at_call 37; (with_reducible refine (cS _).mono ?_); rintro e w1 ⟨rfl, rfl⟩))
    go_region_held3 (fun W => Below w.heap.size w W)
      (first | assumption | exact Below.refl _ _ | exact (Below.refl _ _).drew | (exact bt (by assumption) (by assumption)) | exact below_dr (by assumption))
      (first
        | (go_at_call 48; (with_reducible refine (cR _ (by assumption)).mono ?_); rintro e w2 ⟨rfl, hb2⟩)
        | (go_at_call 46; (with_reducible refine (cV _).mono ?_); rintro e w3 ⟨rfl, rfl⟩))
    all_goals
      go_wp2
      have hbw : Below w.heap.size w w2 := by first | assumption | exact bt (by assumption) (by assumption)
      go_ret3
      exact ⟨hT _ _ _ _ (hd _ hbw) (by omega) (by omega), hbw⟩

theorem take_arg (n c : Nat) (s : Int) (A : Option Addr) (w : World) (h : ¬ (s = 1 ∨ s = 2 ∨ s = 4)) :
    Calls Try.prog 42 #[.slice A n c, .int .i64 s] w fun e w' => e = .returned (.tuple #[.int .i64 0, .slice none 0 0, .int .i64 1]) ∧ w = w' := by
  have cS := fun W => sized_not 0 s W h
  clear h
  go_enter Try.func42, Try.ntmps42
  go_wp2_with (first
    | (go_at_call 37; (with_reducible refine (cS _).mono ?_); rintro e w1 ⟨rfl, rfl⟩))
  go_ret3
  exact ⟨rfl, rfl⟩
theorem take_short (n c k : Nat) (A : Option Addr) (w : World) (hk : Sz k) (h : n < k) :
    Calls Try.prog 42 #[.slice A n c, .int .i64 k] w fun e w' => e = .returned (.tuple #[.int .i64 0, .slice none 0 0, .int .i64 4]) ∧ w = w' := by
  have cS : ∀ W, Calls Try.prog 37 #[.int .i64 0, .int .i64 k] W fun e w' => e = .returned (.tuple #[box k 0, .int .i64 0]) ∧ W = w' := fun W => sized_ok k 0 W hk (Nat.pow_pos (by omega))
  generalize box k 0 = x at *
  have i1 : (n : Int) < (k : Int) := by omega
  clear hk h
  go_enter Try.func42, Try.ntmps42
  go_wp2_with (first
    | (go_at_call 37; (with_reducible refine (cS _).mono ?_); rintro e w1 ⟨rfl, rfl⟩))
  go_ret3
  exact ⟨rfl, rfl⟩

theorem nil_eq (n c : Nat) (W : World) : (binOp .eql 22 (.slice none n c) (.slice none 0 0)).run Try.prog W = .ok (.bool true) W := by kernel_rfl
theorem some_eq (a : Addr) (n c : Nat) (W : World) : (binOp .eql 22 (.slice (some a) n c) (.slice none 0 0)).run Try.prog W = .ok (.bool false) W := by kernel_rfl
theorem clone_any (A : Option Addr) (c B n : Nat) (l : List UInt8) (w : World) (hln : l.length = n) (hA : Sl w B A l) (hl : n ≤ 1099511627776) :
    Calls Try.prog 31 #[.slice A n c] w fun e w' => One w.heap.size l e w' ∧ Below w.heap.size w w' := by
  cases A with
  | none =>
    have h0 : l = [] := List.eq_nil_of_length_eq_zero (by
      rcases Nat.eq_zero_or_pos l.length with h | h
      · exact h
      · obtain ⟨b, off, he, _⟩ := hA h
        cases he)
    subst h0
    subst hln
    have q := nil_eq
    go_enter Try.func31, Try.ntmps31
    go_wp2
    go_ret
    exact ⟨⟨_, rfl, own_nil _ _ _⟩, Below.refl _ _⟩
  | some a =>
    have hsrc : ∀ o : Obj, Src Try.prog 1 22 (.slice (some a) n c) l.length (cells8 l) (w.alloc o) := fun o => by
      subst hln
      by_cases h0 : 0 < l.length
      · obtain ⟨b, off, ha, hb, hc⟩ := hA h0
        have hlt : b < w.heap.size := World.block_lt_of_cell? w ⟨b, off + 0, none⟩ (hc 0 h0)
        have hA' : Sl w w.heap.size (some a) l := fun _ => ⟨b, off, ha, hlt, hc⟩
        exact ((hA'.below ((Below.refl _ _).alloc (Nat.le_refl _) o)).more (Nat.le_refl _)).src Try.underlying22 c
      · have : l = [] := List.eq_nil_of_length_eq_zero (by omega)
        subst this
        exact (Sl.nil _ 0 _).src Try.underlying22 c
    have q := some_eq
    go_enter Try.func31, Try.ntmps31
    go_wp2_with (first
      | (at_builtin
         refine wpList_app8 _ rfl (.tmp 5) (.tmp 6) _ _ rfl w.heap.size 5 t8 (.slice (some ⟨w.heap.size, 0, none⟩) 0 0) [] rfl (own_made _ _ 0 _ #[] (Nat.le_refl _) (by simp) rfl) _ l rfl (hsrc _) ?_ ?_ ?_
         · simp only [List.length_nil]; omega
         · simp
         intro v2 w2 hown2 hg2 hat2))
    go_ret
    exact ⟨⟨v2, rfl, hown2⟩, ((Below.refl _ _).alloc (Nat.le_refl _) _).grown hg2 (by simp) (fun q hq => by cases hq; exact Nat.le_refl _)⟩

/-- What Put, Row and Part answer where all is right. -/
def Put (base : Nat) (l : List UInt8) (e : Ending) (w' : World) : Prop := ∃ v, e = .returned (.tuple #[v, .int .i64 0]) ∧ Own w' base 5 v l
theorem make0 (cap base : Nat) (W : World) (hc : cap ≤ 1099511627776) (hb : base ≤ W.heap.size) :
    ∃ w', (Instr.makeSlice 22 (.int .i64 0) (.int .i64 (cap : Int))).run Try.prog W = .ok (.slice (some ⟨W.heap.size, 0, none⟩) 0 cap) w' ∧
      Own w' base 5 (.slice (some ⟨W.heap.size, 0, none⟩) 0 cap) [] ∧ W.grownBy w' none := by
  obtain ⟨ht, _, i, hi, hz, h1, hb8⟩ := t8
  obtain ⟨w', hr, ho, hg⟩ := run_make_own (P := Try.prog) W base 22 5 i (.int .u8 0) 1 ht hi hz h1 .i64 .i64 cap (by rw [hb8]; omega) (by unfold maxLen; omega) hb
  exact ⟨w', hr, ho, hg⟩
theorem own_far {w : World} {base : Nat} {e : TypeId} {v : Value} {l : List UInt8} (h : Own w base e v l) : ∀ q, v.ownBlock = some q → base ≤ q := fun q hq => (World.ownsRow.lt h q hq).1

theorem put_ok (k m n : Nat) (A : Option Addr) (c : Nat) (l : List UInt8) (w : World) (hk : Sz k) (hm : m < 256 ^ k) (hln : l.length = n) (hl : n ≤ 4294967296) (hA : Sl w w.heap.size A l) :
    Calls Try.prog 27 #[.slice A n c, .int .i64 m, .int .i64 k] w fun e w' => Put w.heap.size (l ++ le k m) e w' ∧ Below w.heap.size w w' := by
  have h4 := hk.le4
  have cS := fun W => sized_ok k m W hk hm
  obtain ⟨w1, hmk, hown1, hg1⟩ := make0 (n + k) w.heap.size w (by omega) (Nat.le_refl _)
  have hb1 : Below w.heap.size w w1 := (Below.refl _ _).grown hg1 (Nat.le_refl _) (fun q hq => by cases hq)
  have hsrc : Src Try.prog 1 22 (.slice A n c) l.length (cells8 l) w1 := by
    subst hln
    exact (hA.below hb1).src Try.underlying22 c
  have cW := fun (W : World) (v : Value) (ho : Own W w.heap.size 5 v ([] ++ l)) (hb : w.heap.size ≤ W.heap.size) => write_any k m w.heap.size v ([] ++ l) W hk hm ho hb (by simp; omega)
  generalize box k m = x at *
  rw [Int.natCast_add] at hmk
  have hll : ([] : List UInt8).length + l.length ≤ 140737488355328 := by simp; omega
  have hb1s := hb1.size
  clear hA hm hk hln
  go_enter Try.func27, Try.ntmps27
  go_wp2_with (first
    | (go_at_call 37; (with_reducible refine (cS _).mono ?_); rintro e w2 ⟨rfl, rfl⟩)
    | (at_builtin
       refine wpList_app8 _ rfl (.tmp 23) (.tmp 24) _ _ rfl w.heap.size 5 t8 (.slice (some ⟨w.heap.size, 0, none⟩) 0 (n + k)) [] rfl hown1 _ l rfl hsrc hll hb1s ?_
       intro v2 w2 hown2 hg2 hat2
       have hb2 := hb1.grown hg2 hb1s (own_far hown1))
    | (go_at_call 38; (with_reducible refine (cW _ _ hown2 hb2.size).mono ?_); rintro e w3 ⟨⟨v3, rfl, hown3⟩, hb3⟩))
  go_ret2
  exact ⟨⟨_, rfl, hown3⟩, hb2.trans hb3⟩
theorem put_no (n s : Int) (v : Value) (w : World) (h : ¬ Fits n s) :
    Calls Try.prog 27 #[v, .int .i64 n, .int .i64 s] w fun e w' => e = .returned (.tuple #[.slice none 0 0, .int .i64 1]) ∧ w = w' := by
  have cS := fun W => sized_no n s W h
  clear h
  go_enter Try.func27, Try.ntmps27
  go_wp2_with (first
    | (go_at_call 37; (with_reducible refine (cS _).mono ?_); rintro e w2 ⟨rfl, rfl⟩))
  go_ret2
  exact ⟨rfl, rfl⟩

/-- What Get answers where all is right. -/
def Got (base k : Nat) (l : List UInt8) (e : Ending) (w' : World) : Prop := ∃ v, e = .returned (.tuple #[.int .i64 (num (l.take k)), v, .int .i64 0]) ∧ Own w' base 5 v (l.drop k)
theorem get_ok (k n : Nat) (A : Option Addr) (c : Nat) (l : List UInt8) (w : World) (hk : Sz k) (hln : l.length = n) (hkl : k ≤ n) (hc : n ≤ c) (hm : c ≤ maxLen) (hl : n ≤ 4294967296) (hA : Sl w w.heap.size A l) :
    Calls Try.prog 29 #[.slice A n c, .int .i64 k] w fun e w' => Got w.heap.size k l e w' ∧ Below w.heap.size w w' := by
  have cT := take_ok k n w.heap.size A c l w hk hln hkl hc hm (Nat.le_refl _) hA
  have hdl : (l.drop k).length = n - k := by rw [List.length_drop, hln]
  have cC := fun (W : World) (A' : Option Addr) (c' : Nat) (hs : Sl W w.heap.size A' (l.drop k)) => clone_any A' c' w.heap.size (n - k) (l.drop k) W hdl hs (by omega)
  unfold Took at cT
  unfold Got
  rw [hln] at cT
  generalize num (l.take k) = x at *
  generalize l.drop k = r at *
  clear hA hdl
  go_enter Try.func29, Try.ntmps29
  go_wp2_with (first
    | (go_at_call 42; (with_reducible refine cT.mono ?_); rintro e w1 ⟨⟨b', off', c', rfl, hs1, -, -⟩, hb1⟩)
    | (go_at_call 31; (with_reducible refine (cC _ _ _ hs1).mono ?_); rintro e w2 ⟨⟨v2, rfl, hown2⟩, hb2⟩))
  go_ret3
  exact ⟨⟨_, rfl, hown2.less hb1.size⟩, bt hb1 hb2⟩
theorem get_arg (n c : Nat) (s : Int) (A : Option Addr) (w : World) (h : ¬ (s = 1 ∨ s = 2 ∨ s = 4)) :
    Calls Try.prog 29 #[.slice A n c, .int .i64 s] w fun e w' => e = .returned (.tuple #[.int .i64 0, .slice none 0 0, .int .i64 1]) ∧ w = w' := by
  have cT := take_arg n c s A w h
  clear h
  go_enter Try.func29, Try.ntmps29
  go_wp2_with (first
    | (go_at_call 42; (with_reducible refine cT.mono ?_); rintro e w1 ⟨rfl, rfl⟩))
  go_ret3
  exact ⟨rfl, rfl⟩
theorem get_short (n c k : Nat) (A : Option Addr) (w : World) (hk : Sz k) (h : n < k) :
    Calls Try.prog 29 #[.slice A n c, .int .i64 k] w fun e w' => e = .returned (.tuple #[.int .i64 0, .slice none 0 0, .int .i64 4]) ∧ w = w' := by
  have cT := take_short n c k A w hk h
  clear h hk
  go_enter Try.func29, Try.ntmps29
  go_wp2_with (first
    | (go_at_call 42; (with_reducible refine cT.mono ?_); rintro e w1 ⟨rfl, rfl⟩))
  go_ret3
  exact ⟨rfl, rfl⟩

theorem part_ok (n : Nat) (A : Option Addr) (c : Nat) (l : List UInt8) (w : World) (hln : l.length = n) (hl : n ≤ 255) (hA : Sl w w.heap.size A l) :
    Calls Try.prog 25 #[.slice A n c] w fun e w' => Put w.heap.size (le 1 n ++ l) e w' ∧ Below w.heap.size w w' := by
  have cS : ∀ W, Calls Try.prog 37 #[.int .i64 n, .int .i64 1] W fun e w' => e = .returned (.tuple #[box 1 n, .int .i64 0]) ∧ W = w' := fun W => sized_ok 1 n W (.inl rfl) (by omega)
  obtain ⟨w1, hmk, hown1, hg1⟩ := make0 (1 + n) w.heap.size w (by omega) (Nat.le_refl _)
  have hb1 : Below w.heap.size w w1 := (Below.refl _ _).grown hg1 (Nat.le_refl _) (fun q hq => by cases hq)
  have hb1s := hb1.size
  have cW := write_any 1 n w.heap.size _ _ w1 (.inl rfl) (by omega) hown1 hb1s (by simp)
  have hsrc : ∀ W, Below w.heap.size w W → Src Try.prog 1 22 (.slice A n c) l.length (cells8 l) W := fun W hW => by
    subst hln
    exact (hA.below hW).src Try.underlying22 c
  generalize box 1 n = x at *
  rw [show ((1 + n : Nat) : Int) = 1 + (n : Int) by omega] at hmk
  have hll : ([] ++ le 1 n).length + l.length ≤ 140737488355328 := by simp [le_length]; omega
  clear hA hln
  go_enter Try.func25, Try.ntmps25
  go_wp2_with (first
    | (go_at_call 37; (with_reducible refine (cS _).mono ?_); rintro e w2 ⟨rfl, rfl⟩)
    | (go_at_call 38; (with_reducible refine cW.mono ?_); rintro e w3 ⟨⟨v3, rfl, hown3⟩, hb3⟩; have hb13 := hb1.trans hb3)
    | (at_builtin
       refine wpList_app8 _ rfl (.tmp 19) (.tmp 20) _ _ rfl w.heap.size 5 t8 v3 _ rfl hown3 _ l rfl (hsrc _ hb13) hll hb13.size ?_
       intro v4 w4 hown4 hg4 hat4))
  go_ret2
  exact ⟨⟨_, rfl, hown4⟩, hb13.grown hg4 hb13.size (own_far hown3)⟩
theorem part_long (n c : Nat) (A : Option Addr) (w : World) (h : 255 < n) :
    Calls Try.prog 25 #[.slice A n c] w fun e w' => e = .returned (.tuple #[.slice none 0 0, .int .i64 2]) ∧ w = w' := by
  have cS : ∀ W, Calls Try.prog 37 #[.int .i64 n, .int .i64 1] W fun e w' => e = .returned (.tuple #[.nilIface, .int .i64 1]) ∧ W = w' := fun W => sized_big 1 n W (.inl rfl) (.inr (by omega))
  go_enter Try.func25, Try.ntmps25
  go_wp2_with (first
    | (go_at_call 37; (with_reducible refine (cS _).mono ?_); rintro e w2 ⟨rfl, rfl⟩))
  go_ret2
  exact ⟨rfl, rfl⟩

/-- What Unpart answers where all is right. -/
def Parted (base : Nat) (l r : List UInt8) (e : Ending) (w' : World) : Prop := ∃ v u, e = .returned (.tuple #[v, u, .int .i64 0]) ∧ Own w' base 5 v l ∧ Own w' base 5 u r
set_option maxHeartbeats 1000000 in
theorem unpart_ok (n m : Nat) (A : Option Addr) (c : Nat) (l : List UInt8) (w : World) (hln : l.length = n) (h1 : 1 ≤ n) (hm : num (l.take 1) = m) (hmn : m ≤ n - 1) (hc : n ≤ c) (hx : c ≤ maxLen) (hl : n ≤ 4294967296) (hA : Sl w w.heap.size A l) :
    Calls Try.prog 43 #[.slice A n c] w fun e w' => Parted w.heap.size ((l.drop 1).take m) ((l.drop 1).drop m) e w' ∧ Below w.heap.size w w' := by
  have cT : Calls Try.prog 42 #[.slice A n c, .int .i64 1] w fun e w' => Took w.heap.size 1 l e w' ∧ Below w.heap.size w w' := take_ok 1 n w.heap.size A c l w (.inl rfl) hln h1 hc hx (Nat.le_refl _) hA
  have hrl : (l.drop 1).length = n - 1 := by rw [List.length_drop, hln]
  unfold Took at cT
  rw [hln, hm] at cT
  generalize l.drop 1 = r at *
  generalize hn1 : n - 1 = n1 at *
  have i1 : (0 : Int) ≤ (m : Int) := by omega
  have i2 : (m : Int) ≤ (n1 : Int) := by omega
  have i4 : ¬ (n1 : Int) < (m : Int) := by omega
  have cA := fun (W : World) (b off c' : Nat) (hs : Sl W w.heap.size (some ⟨b, off, none⟩) r) => clone_any (some ⟨b, off, none⟩) c' w.heap.size m (r.take m) W (by rw [List.length_take]; omega) (hs.take m) (by omega)
  have cB := fun (W : World) (b off c' : Nat) (hs : Sl W w.heap.size (some ⟨b, off, none⟩) r) => clone_any (some ⟨b, off + m, none⟩) c' w.heap.size (n1 - m) (r.drop m) W (by rw [List.length_drop]; omega) (hs.drop m) (by omega)
  have cC := fun (h : n1 = m) (W : World) (b off c' : Nat) => clone_any (some ⟨b, off, none⟩) c' w.heap.size 0 (r.drop m) W (by rw [List.length_drop]; omega) (by rw [List.drop_eq_nil_of_le (by omega)]; exact Sl.nil _ _ _) (by omega)
  clear hA hrl
  go_enter Try.func43, Try.ntmps43
  go_wp2_with (first
    | (go_at_call 42; (with_reducible refine cT.mono ?_); rintro e w1 ⟨⟨b', off', c', rfl, hs1, hx1, hx2⟩, hb1⟩; have i3 : (m : Int) ≤ (c' : Int) := by omega))
  have lw := hb1.size
  have hs : ∀ W, Below w1.heap.size w1 W → Sl W w.heap.size (some ⟨b', off', none⟩) r := fun W hW => hs1.below (hW.mono lw)
  by_cases hcm : c' = m
  · subst hcm
    obtain rfl : n1 = c' := by omega
    replace cC := cC rfl
    go_region_held3 (fun W => Below w1.heap.size w1 W)
      (first | assumption | exact Below.refl _ _ | exact (Below.refl _ _).drew | (exact bt (by assumption) (by assumption)) | exact below_dr (by assumption))
      (first
        | (go_at_call 31; (with_reducible refine (cA _ _ _ _ (hs _ (by assumption))).mono ?_); rintro e w2 ⟨⟨v2, rfl, hown2⟩, hb2⟩)
        | (go_at_call 31; (with_reducible refine (cC _ _ _ _).mono ?_); rintro e w3 ⟨⟨v3, rfl, hown3⟩, hb3⟩))
    all_goals
      have h12 : Below w1.heap.size w1 w2 := by first | assumption | exact (Below.refl _ _).drew.trans hb2 | exact bt (by assumption) (by assumption)
      have h13 : Below w1.heap.size w1 w3 := bt h12 hb3
      go_wp2
      go_ret3
      exact ⟨⟨v2, v3, rfl, (hown2.below hb3).less lw, hown3.less (Nat.le_trans lw h12.size)⟩, bt hb1 h13⟩
  · have i10 : ¬ (c' : Int) = (m : Int) := by omega
    go_region_held3 (fun W => Below w1.heap.size w1 W)
      (first | assumption | exact Below.refl _ _ | exact (Below.refl _ _).drew | (exact bt (by assumption) (by assumption)) | exact below_dr (by assumption))
      (first
        | (go_at_call 31; (with_reducible refine (cA _ _ _ _ (hs _ (by assumption))).mono ?_); rintro e w2 ⟨⟨v2, rfl, hown2⟩, hb2⟩)
        | (go_at_call 31; (with_reducible refine (cB _ _ _ _ (hs _ (by assumption))).mono ?_); rintro e w3 ⟨⟨v3, rfl, hown3⟩, hb3⟩))
    all_goals
      have h12 : Below w1.heap.size w1 w2 := by first | assumption | exact (Below.refl _ _).drew.trans hb2 | exact bt (by assumption) (by assumption)
      have h13 : Below w1.heap.size w1 w3 := bt h12 hb3
      go_wp2
      go_ret3
      exact ⟨⟨v2, v3, rfl, (hown2.below hb3).less lw, hown3.less (Nat.le_trans lw h12.size)⟩, bt hb1 h13⟩

theorem unpart_no (n : Nat) (A : Option Addr) (c : Nat) (l : List UInt8) (w : World) (hln : l.length = n) (h : n < 1 + num (l.take 1)) (hc : n ≤ c) (hx : c ≤ maxLen) (hA : Sl w w.heap.size A l) :
    Calls Try.prog 43 #[.slice A n c] w fun e w' => e = .returned (.tuple #[.slice none 0 0, .slice none 0 0, .int .i64 4]) ∧ Below w.heap.size w w' := by
  by_cases h0 : n = 0
  · subst h0
    have cT : Calls Try.prog 42 #[.slice A (0 : Nat) c, .int .i64 1] w fun e w' => e = .returned (.tuple #[.int .i64 0, .slice none 0 0, .int .i64 4]) ∧ w = w' := take_short 0 c 1 A w (.inl rfl) (by omega)
    clear h hA hln
    go_enter Try.func43, Try.ntmps43
    go_wp2_with (first
      | (go_at_call 42; (with_reducible refine cT.mono ?_); rintro e w1 ⟨rfl, rfl⟩))
    go_ret3
    exact ⟨rfl, Below.refl _ _⟩
  · have cT : Calls Try.prog 42 #[.slice A n c, .int .i64 1] w fun e w' => Took w.heap.size 1 l e w' ∧ Below w.heap.size w w' := take_ok 1 n w.heap.size A c l w (.inl rfl) hln (by omega) hc hx (Nat.le_refl _) hA
    unfold Took at cT
    rw [hln] at cT
    generalize num (l.take 1) = m at *
    have i1 : ((n - 1 : Nat) : Int) < (m : Int) := by omega
    clear hA hln
    generalize n - 1 = n1 at *
    go_enter Try.func43, Try.ntmps43
    go_wp2_with (first
      | (go_at_call 42; (with_reducible refine cT.mono ?_); rintro e w1 ⟨⟨b', off', c', rfl, hs1, hx1, hx2⟩, hb1⟩))
    go_ret3
    exact ⟨rfl, hb1⟩
end Go.Proofs.Ytajgkfcflbmkdaa.pck
