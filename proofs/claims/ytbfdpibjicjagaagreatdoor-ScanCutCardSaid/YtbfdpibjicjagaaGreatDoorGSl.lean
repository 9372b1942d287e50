/-
  Sectors as bytes: plain mathematics. No run of the program stands here; the conditions are those that each fact names.
  The library's Concat of byte strings, and package seal's Make, each by its contract. Conditions: byte strings shorter than 2^20.
  Package seal's Make, by its contract. Conditions: payloads shorter than 2^20.
  Package seal's Open, by its contract. Conditions: byte strings shorter than 2^20.
  Package seal's Flip, by its contract: what comes back is the bytes with just those bits turned. Conditions: byte strings shorter than 2^20.
  The document's own answers for sectors (as the statements' package gives them), each by its contract. Conditions: byte strings shorter than 2^20.
  The document's own turning of bits, and its opening of sectors (as the statements' package gives them), each by its contract; 'wakes'. Conditions: byte strings shorter than 2^20.
  The document's own opening of sectors (as the statements' package gives it), by its contract. Conditions: byte strings shorter than 2^20.
-/
import Derived.Test.YtbfdpibjicjagaaGreatDoorGSum
import Derived.Test.YtbfdpibjicjagaaGreatDoorGPk
import Derived.Test.YtbfdpibjicjagaaGreatDoorSlices
import Derived.Lib.AppendZerosOnto
import Derived.Deep.RegionHeld3
import Derived.StillTailTactics
import Derived.OneCell
set_option maxHeartbeats 2000000
set_option maxRecDepth 100000
namespace Go.Proofs.YtbfdpibjicjagaaGreatDoor.sel
open Go.Proofs.YtbfdpibjicjagaaGreatDoor.crc Go.Proofs.YtbfdpibjicjagaaGreatDoor.pck
def body (a s : Nat) (l : List UInt8) : List UInt8 := le 1 l.length ++ l ++ (le 2 a ++ le 4 s)
def enc (a s : Nat) (l : List UInt8) : List UInt8 := body a s l ++ le 4 (sum (body a s l))
theorem body_length (a s : Nat) (l : List UInt8) : (body a s l).length = l.length + 7 := by simp [body, le_length]; omega
theorem enc_length (a s : Nat) (l : List UInt8) : (enc a s l).length = l.length + 11 := by rw [enc, List.length_append, body_length, le_length]
structure Mk where
  err : Nat
  bytes : List UInt8
def OkS (a s : Int) : Prop := 0 ≤ a ∧ a < 65536 ∧ 0 ≤ s ∧ s < 4294967296
instance (a s : Int) : Decidable (OkS a s) := by unfold OkS; infer_instance
def made (a s : Int) (l : List UInt8) : Mk := if OkS a s then (if 96 < l.length then ⟨2, []⟩ else ⟨0, enc a.toNat s.toNat l⟩) else ⟨1, []⟩
structure Opn where
  err : Nat
  addr : Nat
  stamp : Nat
  load : List UInt8
def no (e : Nat) : Opn := ⟨e, 0, 0, []⟩
def Whole (b : List UInt8) : Prop := num (b.drop (b.length - 4)) = sum (b.take (b.length - 4))
instance (b : List UInt8) : Decidable (Whole b) := by unfold Whole; infer_instance
def opened (b : List UInt8) : Opn :=
  if b.length < 11 ∨ 107 < b.length then no 4
  else if Whole b then
    (if num (b.take 1) = b.length - 11 then ⟨0, num ((b.drop (b.length - 10)).take 2), num ((b.drop (b.length - 8)).take 4), (b.drop 1).take (b.length - 11)⟩ else no 4)
  else no 5
theorem num_le' {k n : Nat} (h : n < 256 ^ k) (t : List UInt8) : num ((le k n ++ t).take k) = n := by
  rw [List.take_left' (le_length k n)]
  exact num_le k n h
theorem enc_take (a s : Nat) (l : List UInt8) : (enc a s l).take ((enc a s l).length - 4) = body a s l := by
  rw [enc_length, enc, List.take_left' (by rw [body_length]; omega)]
theorem enc_drop (a s : Nat) (l : List UInt8) : (enc a s l).drop ((enc a s l).length - 4) = le 4 (sum (body a s l)) := by
  rw [enc_length, enc, List.drop_left' (by rw [body_length]; omega)]
theorem enc_whole (a s : Nat) (l : List UInt8) : Whole (enc a s l) := by
  unfold Whole
  rw [enc_take, enc_drop]
  exact num_le 4 _ (by have := sum_lt (body a s l); simpa using this)
theorem enc_tail (a s : Nat) (l : List UInt8) : enc a s l = (le 1 l.length ++ l) ++ (le 2 a ++ (le 4 s ++ le 4 (sum (body a s l)))) := by
  simp [enc, body]
theorem enc_ten (a s : Nat) (l : List UInt8) : (enc a s l).drop ((enc a s l).length - 10) = le 2 a ++ (le 4 s ++ le 4 (sum (body a s l))) := by
  rw [enc_length, enc_tail, List.drop_left' (by simp [le_length]; omega)]
theorem enc_eight (a s : Nat) (l : List UInt8) : (enc a s l).drop ((enc a s l).length - 8) = le 4 s ++ le 4 (sum (body a s l)) := by
  rw [enc_length, enc_tail, ← List.append_assoc _ (le 2 a), List.drop_left' (by simp [le_length]; omega)]
theorem enc_load (a s : Nat) (l : List UInt8) : ((enc a s l).drop 1).take l.length = l := by
  rw [enc_tail, List.append_assoc, List.drop_left' (le_length 1 _), List.take_left' rfl]
theorem enc_first (a s : Nat) {l : List UInt8} (hl : l.length < 256) : num ((enc a s l).take 1) = l.length := by
  rw [enc_tail, List.append_assoc]
  exact num_le' (by simpa using hl) _
theorem opened_enc {a s : Nat} {l : List UInt8} (ha : a < 65536) (hs : s < 4294967296) (hl : l.length ≤ 96) : opened (enc a s l) = ⟨0, a, s, l⟩ := by
  unfold opened
  rw [if_neg (by rw [enc_length]; omega), if_pos (enc_whole a s l), if_pos (by rw [enc_first a s (by omega), enc_length]; omega), enc_ten, enc_eight, num_le' (by simpa using ha), num_le' (by simpa using hs), enc_length, Nat.add_sub_cancel, enc_load]
theorem cut_append {α : Type} (b : List α) (i k : Nat) : b.drop i = (b.drop i).take k ++ b.drop (i + k) := by
  conv => lhs; rw [← List.take_append_drop k (b.drop i), List.drop_drop]
theorem le_of (k : Nat) (x : List UInt8) (h : x.length = k) : le k (num x) = x := by
  subst h
  exact le_num x
theorem enc_opened {b : List UInt8} (h : (opened b).err = 0) : enc (opened b).addr (opened b).stamp (opened b).load = b ∧ (opened b).addr < 65536 ∧ (opened b).stamp < 4294967296 ∧ (opened b).load.length ≤ 96 := by
  unfold opened at *
  split at h
  · cases h
  · rename_i hn
    rw [if_neg hn]
    split at h
    · rename_i hw
      rw [if_pos hw]
      split at h
      · rename_i h1
        rw [if_pos h1]
        obtain ⟨n, hlen⟩ : ∃ n, b.length = n + 11 := ⟨b.length - 11, by omega⟩
        unfold Whole at hw
        rw [hlen] at hw h1 ⊢
        have d10 : ((b.drop (n + 1)).take 2).length = 2 := by rw [List.length_take, List.length_drop]; omega
        have d8 : ((b.drop (n + 3)).take 4).length = 4 := by rw [List.length_take, List.length_drop]; omega
        have dl : ((b.drop 1).take n).length = n := by rw [List.length_take, List.length_drop]; omega
        have d1 : (b.take 1).length = 1 := by rw [List.length_take]; omega
        have d4 : (b.drop (n + 7)).length = 4 := by rw [List.length_drop]; omega
        simp only [show n + 11 - 11 = n by omega, show n + 11 - 10 = n + 1 by omega, show n + 11 - 8 = n + 3 by omega, show n + 11 - 4 = n + 7 by omega] at *
        have e0 : b.take (n + 7) = b.take 1 ++ ((b.drop 1).take n ++ ((b.drop (n + 1)).take 2 ++ (b.drop (n + 3)).take 4)) := by
          have := cut_append b 0 1
          rw [List.drop_zero, Nat.zero_add] at this
          have h2 := cut_append b 1 n
          have h3 := cut_append b (n + 1) 2
          have h4 := cut_append b (n + 3) 4
          rw [Nat.add_comm 1 n] at h2
          rw [show n + 1 + 2 = n + 3 by omega] at h3
          rw [show n + 3 + 4 = n + 7 by omega] at h4
          have hb : b = (b.take 1 ++ ((b.drop 1).take n ++ ((b.drop (n + 1)).take 2 ++ (b.drop (n + 3)).take 4))) ++ b.drop (n + 7) := by
            conv => lhs; rw [this, h2, h3, h4]
            simp
          have hl : (b.take 1 ++ ((b.drop 1).take n ++ ((b.drop (n + 1)).take 2 ++ (b.drop (n + 3)).take 4))).length = n + 7 := by
            simp only [List.length_append, d10, d8, dl, d1]; omega
          conv => lhs; rw [hb]
          exact List.take_left' hl
        have f1 : le 1 n = b.take 1 := by rw [← h1, le_of 1 _ d1]
        have eb : body (num ((b.drop (n + 1)).take 2)) (num ((b.drop (n + 3)).take 4)) ((b.drop 1).take n) = b.take (n + 7) := by
          unfold body
          rw [dl, f1, le_of 2 _ d10, le_of 4 _ d8, e0, List.append_assoc]
        refine ⟨?_, ?_, ?_, by show ((b.drop 1).take n).length ≤ 96; omega⟩
        · unfold enc
          rw [eb, ← hw, le_of 4 _ d4, List.take_append_drop]
        · have := num_lt ((b.drop (n + 1)).take 2)
          rw [d10] at this
          exact this
        · have := num_lt ((b.drop (n + 3)).take 4)
          rw [d8] at this
          exact this
      · cases h
    · cases h
theorem opened_short {b : List UInt8} (h : b.length < 11 ∨ 107 < b.length) : opened b = no 4 := by
  unfold opened
  rw [if_pos h]
/- The register behind bytes and their sum is always the same. -/
theorem low_gone (r : Nat) : r ^^^ r % 256 = 256 * (r / 256) := by
  have h1 : (r ^^^ r % 256) % 256 = 0 := by
    have := Nat.xor_mod_two_pow (a := r) (b := r % 256) (n := 8)
    simp only [Nat.reducePow, Nat.mod_mod] at this
    rw [this, Nat.xor_self]
  have h2 : (r ^^^ r % 256) / 256 = r / 256 := by
    have := Nat.xor_div_two_pow (a := r) (b := r % 256) (n := 8)
    simp only [Nat.reducePow] at this
    rw [this, show r % 256 / 256 = 0 by omega, Nat.xor_zero]
  omega
theorem downs_byte (q : Nat) : downs 8 (256 * q) = q := by
  have : 256 * q = 2 * (2 * (2 * (2 * (2 * (2 * (2 * (2 * q))))))) := by omega
  rw [this]
  simp only [downs, down_double]
theorem reg_self (k r : Nat) (h : r < 256 ^ k) : reg r (le k r) = 0 := by
  induction k generalizing r with
  | zero => simp at h; subst h; rfl
  | succ k ih =>
    show reg (downs 8 (r ^^^ (UInt8.ofNat (r % 256)).toNat)) (le k (r / 256)) = 0
    rw [byte_toNat, low_gone, downs_byte]
    refine ih _ ?_
    rw [Nat.pow_succ] at h
    exact Nat.div_lt_of_lt_mul (by rw [Nat.mul_comm]; exact h)
theorem le_xor (k a b : Nat) : le k (a ^^^ b) = List.zipWith (· ^^^ ·) (le k a) (le k b) := by
  induction k generalizing a b with
  | zero => rfl
  | succ k ih =>
    have h1 := Nat.xor_mod_two_pow (a := a) (b := b) (n := 8)
    have h2 := Nat.xor_div_two_pow (a := a) (b := b) (n := 8)
    simp only [Nat.reducePow] at h1 h2
    rw [le, le, le, List.zipWith_cons_cons, ← ih, h2]
    congr 1
    apply UInt8.toNat_inj.1
    rw [xor_toNat, byte_toNat, byte_toNat, byte_toNat, h1]
theorem residue (x : List UInt8) : reg ones (x ++ le 4 (sum x)) = reg 0 (le 4 ones) := by
  have hr := reg_lt x (r := ones) (by decide)
  rw [reg_append, sum, flip_ones hr, le_xor]
  have := reg_xor (le 4 (reg ones x)) (le 4 ones) (by rw [le_length, le_length]) (reg ones x) 0
  rw [Nat.xor_zero] at this
  rw [this, reg_self 4 _ (by simpa using hr), Nat.zero_xor]
theorem whole_sum {b : List UInt8} (h : Whole b) (h4 : 4 ≤ b.length) : sum b = ones - reg 0 (le 4 ones) := by
  have e : b = b.take (b.length - 4) ++ le 4 (sum (b.take (b.length - 4))) := by
    unfold Whole at h
    rw [← h, le_of 4 _ (by rw [List.length_drop]; omega), List.take_append_drop]
  unfold sum
  rw [e, residue]
theorem flipped_not {l out : List UInt8} {p X : Nat} (hw : Whole l) (h4 : 4 ≤ l.length) (h : TurnedAll l out p X) (hp : p < 8 * l.length) (hX : X < 4294967296) (ho : X % 2 = 1) : ¬ Whole out := by
  intro hn
  have := turned_sum h hp hX ho
  rw [whole_sum hw h4, whole_sum hn (by rw [h.1]; exact h4)] at this
  exact this rfl
theorem opened_flipped {l out : List UInt8} {p X : Nat} (hw : Whole l) (h11 : 11 ≤ l.length) (h107 : l.length ≤ 107) (h : TurnedAll l out p X) (hp : p < 8 * l.length) (hX : X < 4294967296) (ho : X % 2 = 1) : opened out = no 5 := by
  unfold opened
  have := h.1
  rw [if_neg (by omega), if_neg (flipped_not hw (by omega) h hp hX ho)]
theorem turned_nil (p X : Nat) : TurnedAll [] [] p X := ⟨rfl, fun j h => by simp at h⟩
end Go.Proofs.YtbfdpibjicjagaaGreatDoor.sel
namespace Go.Proofs.YtbfdpibjicjagaaGreatDoor.sel
open Go.RowKit Go.Lib
open Go.Proofs.YtbfdpibjicjagaaGreatDoor.pck (Put AllFit Rowed bytesOf le le_length row_any part_ok put_ok Fits own_far)
theorem bl (w : World) (o : Obj) : Below w.heap.size w (w.alloc o) := (Below.refl _ _).alloc (Nat.le_refl _) o
theorem grow_run (k : Nat) (ty : TypeId) (w : World) (h0 : 0 < k) (hk : k ≤ 1048576) :
    ∃ (cap : Nat) (cur : Array Value), cap ≤ maxLen ∧ cur.size = cap ∧ (Builtin.append_ #[49, 3] ty #[.slice none 0 0, .int .i64 (k : Int)]).run Tryz.prog w = .ok (.slice (some ⟨w.heap.size, 0, none⟩) k cap) (w.drew.alloc (.cells cur 5)) := by
  obtain ⟨ht, _, i, hi, hz, h1, hb⟩ := t8
  have hr := run_append_grow_zeros (P := Tryz.prog) w 49 3 ty 5 i (.int .u8 0) .i64 .i64 ht Tryz.underlying3 hi hz none 0 0 [] (run_firstCells_none w.drew i.size 0 0 0) k h0 (by omega) (by omega) (by omega) (by rw [hb]; omega) (growslice_fits (by omega) (by rw [hb]; omega))
  rw [Nat.zero_add] at hr
  have hge := grownCap_ge w k 0 5
  refine ⟨_, _, grownCap_le_maxLen w k 0 5 (by unfold maxLen; omega), ?_, hr⟩
  have hz1 : (Value.int .u8 0).cells.size = 1 := rfl
  simp [size_zeroCells, hz1]
  omega
theorem grow_any (k : Nat) (w : World) (hk : k ≤ 1048576) :
    Calls Tryz.prog 117 #[.slice none 0 0, .int .i64 k] w fun e w' => One w.heap.size [] e w' ∧ Below w.heap.size w w' := by
  by_cases h0 : k = 0
  · subst h0
    go_enter Tryz.func117, Tryz.ntmps117
    go_wp2
    go_ret
    exact ⟨⟨_, rfl, own_nil _ _ _⟩, Below.refl _ _⟩
  · have i1 : (0 : Int) < (k : Int) := by omega
    have i2 : ¬ (k : Int) < 0 := by omega
    obtain ⟨cap, cur, hm, hs, hr⟩ := grow_run k 49 w (by omega) hk
    go_enter Tryz.func117, Tryz.ntmps117
    go_wp2_with (first
      | (at_builtin
         refine wpList_appRun _ rfl (.tmp 20) (.tmp 21) _ _ rfl _ _ _ _ rfl rfl hr ?_))
    go_ret
    exact ⟨⟨_, rfl, World.ownsRow_made w.drew cur cap (Nat.le_refl _) hm (by omega)⟩, below_dr (Below.refl _ _) |>.trans (bl w.drew _)⟩
def flats (rs : List Row) : List UInt8 := rs.flatMap Row.l
theorem flats_next (rs : List Row) (k : Nat) (h : k < rs.length) : flats (rs.take (k + 1)) = flats (rs.take k) ++ (rs[k]).l := by
  unfold flats
  rw [List.take_succ_eq_append_getElem h, List.flatMap_append]
  simp
theorem flats_take_le (rs : List Row) (k : Nat) : (flats (rs.take k)).length ≤ (flats rs).length := by
  conv => rhs; rw [← List.take_append_drop k rs]
  unfold flats
  rw [List.flatMap_append, List.length_append]
  omega
theorem concat_any (A : Option Addr) (c B n : Nat) (rs : List Row) (w : World) (hn : rs.length = n) (hA : SlV w B A (vals rs)) (hR : Rws w B rs) (hB : B ≤ w.heap.size) (hq : n ≤ 1048576) (hl : (flats rs).length ≤ 1048576) :
    Calls Tryz.prog 99 #[.slice A n c] w fun e w' => One w.heap.size (flats rs) e w' ∧ Below w.heap.size w w' := by
  subst hn
  go_enter Tryz.func99, Tryz.ntmps99
  go_wp2
  go_loop [3, 5, 11] (fun s _ i => ∃ k : Nat, i = .int .i64 k ∧ k ≤ rs.length ∧ s = .int .i64 ((flats (rs.take k)).length : Nat)) (fun _ _ i => rs.length - (RowKit.intOf i).toNat)
  case atStart => exact ⟨0, rfl, by omega, rfl⟩
  case round =>
    obtain ⟨k, rfl, hk, rfl⟩ := hrel
    by_cases hlt : k < rs.length
    · have i1 : (k : Int) < (rs.length : Int) := by omega
      obtain ⟨b, off, rfl, hb, hc⟩ := hA (by rw [vals_length]; omega)
      have g := hc k (by rw [vals_length]; omega)
      rw [vals_get] at g
      have hn : (flats (rs.take (k + 1))).length = (flats (rs.take k)).length + (rs[k]'hlt).l.length := by rw [flats_next rs k hlt, List.length_append]
      have hle := flats_take_le rs (k + 1)
      have HN := Lib.hid hn
      rw [hn] at hle
      clear hn hc hA hR
      generalize (flats (rs.take k)).length = s at *
      generalize (rs[k]'hlt).l.length = m at *
      have i2 : ¬ (s : Int) + (m : Int) < 0 := by omega
      go_wp2
      go_round
      case rel => exact ⟨k + 1, by go_num, by omega, by rw [HN.out]; go_num⟩
      case measure => simp [RowKit.intOf]; omega
    · have i1 : ¬ (k : Int) < (rs.length : Int) := by omega
      rw [List.take_of_length_le (by omega)]
      generalize hS : (flats rs).length = S at *
      have HS := Lib.hid hS
      clear hS
      go_wp2_with (go_at_call 117; (with_reducible refine (grow_any _ _ hl).mono ?_); rintro e w1 ⟨⟨v, rfl, hown1⟩, hb1⟩)
      clear i1 hlt
      go_loopw [6, 8, 27] (fun v _ i w' => ∃ k : Nat, i = .int .i64 k ∧ k ≤ rs.length ∧ Own w' w.heap.size 5 v (flats (rs.take k)) ∧ Below w.heap.size w w') (fun _ _ i _ => rs.length - (RowKit.intOf i).toNat)
      case atStart => exact ⟨0, rfl, by omega, hown1, hb1⟩
      case round =>
        rename_i wr
        obtain ⟨j, rfl, hj, hown, hbr⟩ := hrel
        by_cases hlt : j < rs.length
        · have i1 : (j : Int) < (rs.length : Int) := by omega
          obtain ⟨b, off, rfl, hb, hc⟩ := (hA.below (hbr.mono hB)) (by rw [vals_length]; omega)
          have g := hc j (by rw [vals_length]; omega)
          rw [vals_get] at g
          have hsl := (hR _ (List.getElem_mem hlt)).below (hbr.mono hB)
          have hn := flats_next rs j hlt
          have hle := flats_take_le rs (j + 1)
          rw [HS.out, hn, List.length_append] at hle
          have HN := Lib.hid hn
          clear hn hc hA hR
          generalize flats (rs.take j) = F at *
          generalize (rs[j]'hlt).l = vs at *
          generalize (rs[j]'hlt).A = X at *
          generalize (rs[j]'hlt).c = x at *
          go_wp2_with (first
            | (at_builtin
               refine wpList_app8 _ rfl (.tmp 31) (.tmp 32) _ _ rfl w.heap.size 5 t8 _ F rfl hown _ vs rfl (hsl.src Tryz.underlying49 x) (by omega) hbr.size ?_
               intro v2 w2 hown2 hg2 hat2))
          have hb2 := hbr.grown hg2 hbr.size (fun q hq => (World.ownsRow.lt hown q hq).1)
          go_roundw
          case rel => exact ⟨j + 1, by go_num, by omega, by rw [HN.out]; exact hown2, hb2⟩
          case measure => simp [RowKit.intOf]; omega
        · have i1 : ¬ (j : Int) < (rs.length : Int) := by omega
          rw [List.take_of_length_le (by omega)] at hown
          go_wp2
          go_ret
          exact ⟨⟨_, rfl, hown⟩, hbr⟩
theorem sizes_any (w : World) :
    Calls Tryz.prog 97 #[] w fun e w' => e = .returned (.slice (some ⟨w.heap.size, 0, none⟩) 2 2) ∧ w' = w.alloc (.cells #[.int .i64 2, .int .i64 4] 3) := by
  go_enter Tryz.func97, Tryz.ntmps97
  go_wp2
  go_ret
  exact ⟨rfl, rfl⟩
end Go.Proofs.YtbfdpibjicjagaaGreatDoor.sel
namespace Go.Proofs.YtbfdpibjicjagaaGreatDoor.sel
open Go.RowKit Go.Lib
open Go.Proofs.YtbfdpibjicjagaaGreatDoor.pck (Put AllFit Rowed bytesOf le le_length row_any part_ok put_ok Fits own_far)
open Go.Proofs.YtbfdpibjicjagaaGreatDoor.crc (sum sum_lt of_any)
theorem two_fit {a s : Int} : AllFit [(a, 2), (s, 4)] ↔ OkS a s := by
  constructor
  · intro h
    obtain ⟨k, m, hs, hn, hk, hm⟩ := h (a, 2) (by simp)
    obtain ⟨k', m', hs', hn', hk', hm'⟩ := h (s, 4) (by simp)
    simp only at hs hn hs' hn'
    obtain rfl : k = 2 := by omega
    obtain rfl : k' = 4 := by omega
    refine ⟨by omega, by omega, by omega, by omega⟩
  · rintro ⟨h1, h2, h3, h4⟩ p hp
    simp only [List.mem_cons, List.not_mem_nil, or_false] at hp
    rcases hp with rfl | rfl
    · exact ⟨2, a.toNat, rfl, by simp only; omega, .inr (.inl rfl), by omega⟩
    · exact ⟨4, s.toNat, rfl, by simp only; omega, .inr (.inr rfl), by omega⟩
theorem two_bytes (a s : Int) : bytesOf [(a, 2), (s, 4)] = le 2 a.toNat ++ le 4 s.toNat := by simp [bytesOf]
theorem row_two (a s : Int) (W : World) (g1 g2 c1 c2 : Nat) (t1 t2 : TypeId) (f1 f2 : Nat × Nat) (h1 : W.heap[g1]? = some (.cells #[.int .i64 a, .int .i64 s] t1 f1)) (h2 : W.heap[g2]? = some (.cells #[.int .i64 2, .int .i64 4] t2 f2)) :
    Calls Tryz.prog 96 #[.slice (some ⟨g1, 0, none⟩) 2 c1, .slice (some ⟨g2, 0, none⟩) 2 c2] W fun e w' => Rowed W.heap.size [(a, 2), (s, 4)] e w' ∧ Below W.heap.size W w' := by
  have l1 : g1 < W.heap.size := by
    rcases Nat.lt_or_ge g1 W.heap.size with k | k
    · exact k
    · rw [Array.getElem?_eq_none k] at h1; cases h1
  have l2 : g2 < W.heap.size := by
    rcases Nat.lt_or_ge g2 W.heap.size with k | k
    · exact k
    · rw [Array.getElem?_eq_none k] at h2; cases h2
  exact row_any 2 (some ⟨g1, 0, none⟩) (some ⟨g2, 0, none⟩) c1 c2 [(a, 2), (s, 4)] W rfl (by omega) (SlV.of_block h1 rfl l1) (SlV.of_block h2 rfl l2)
theorem row_two_ok (a s : Int) (ho : OkS a s) (W : World) (g1 g2 c1 c2 : Nat) (t1 t2 : TypeId) (f1 f2 : Nat × Nat) (h1 : W.heap[g1]? = some (.cells #[.int .i64 a, .int .i64 s] t1 f1)) (h2 : W.heap[g2]? = some (.cells #[.int .i64 2, .int .i64 4] t2 f2)) :
    Calls Tryz.prog 96 #[.slice (some ⟨g1, 0, none⟩) 2 c1, .slice (some ⟨g2, 0, none⟩) 2 c2] W fun e w' => (∃ X x, e = .returned (.tuple #[.slice X 6 x, .int .i64 0]) ∧ 6 ≤ x ∧ x ≤ maxLen ∧ Sl w' w'.heap.size X (le 2 a.toNat ++ le 4 s.toNat)) ∧ Below W.heap.size W w' := by
  refine (row_two a s W g1 g2 c1 c2 t1 t2 f1 f2 h1 h2).mono ?_
  rintro e w' ⟨h | h, hb⟩
  · obtain ⟨-, v, rfl, ho⟩ := h
    rw [two_bytes] at ho
    obtain ⟨X, x, hv, h6, hm, hs, -⟩ := ho.form
    have hl : (le 2 a.toNat ++ le 4 s.toNat).length = 6 := by rw [List.length_append, le_length, le_length]
    rw [hl] at hv h6
    subst hv
    exact ⟨⟨X, x, rfl, h6, hm, hs⟩, hb⟩
  · exact absurd (two_fit.2 ho) h.1
theorem kal {a W : World} (h : Below a.heap.size a W) (o : Obj) : Below a.heap.size a (W.alloc o) := h.alloc h.size o
theorem old_new (w : World) (o o' : Obj) : ((w.alloc o).alloc o').heap[w.heap.size]? = some o := (heap_alloc_old _ _ (by simp)).trans (heap_alloc_new w o)
theorem new_new (w : World) (o o' : Obj) : ((w.alloc o).alloc o').heap[w.heap.size + 1]? = some o' := by
  have := heap_alloc_new (w.alloc o) o'
  rwa [show (w.alloc o).heap.size = w.heap.size + 1 by simp] at this
theorem kst {a W : World} (h : Below a.heap.size a W) {b o : Nat} {v : Value} (hb : b < a.heap.size) (hv : a.cell? ⟨b, o, none⟩ = some v) : W.cell? ⟨b, o, none⟩ = some v := (h.cell (p := ⟨b, o, none⟩) hb).trans hv
theorem row_orders {Q : Ending → World → Prop} {a s : Int} (w0 : World)
    (h : ∀ (W : World) (g1 g2 c1 c2 : Nat) (t1 t2 : TypeId) (f1 f2 : Nat × Nat), W.heap[g1]? = some (.cells #[.int .i64 a, .int .i64 s] t1 f1) → W.heap[g2]? = some (.cells #[.int .i64 2, .int .i64 4] t2 f2) →
      Calls Tryz.prog 96 #[.slice (some ⟨g1, 0, none⟩) 2 c1, .slice (some ⟨g2, 0, none⟩) 2 c2] W fun e w' => Q e w' ∧ Below W.heap.size W w') :
    Calls Tryz.prog 96 #[.slice (some ⟨w0.heap.size, 0, none⟩) 2 2, .slice (some ⟨w0.heap.size + 1, 0, none⟩) 2 2] ((w0.alloc (.cells #[.int .i64 a, .int .i64 s] 3)).alloc (.cells #[.int .i64 2, .int .i64 4] 3)).drew (fun e w' => Q e w' ∧ Below w0.heap.size w0 w') ∧
    Calls Tryz.prog 96 #[.slice (some ⟨w0.heap.size + 1, 0, none⟩) 2 2, .slice (some ⟨w0.heap.size, 0, none⟩) 2 2] ((w0.alloc (.cells #[.int .i64 2, .int .i64 4] 3)).alloc (.cells #[.int .i64 a, .int .i64 s] 3)).drew (fun e w' => Q e w' ∧ Below w0.heap.size w0 w') := by
  have h1 := h ((w0.alloc (.cells #[.int .i64 a, .int .i64 s] 3)).alloc (.cells #[.int .i64 2, .int .i64 4] 3)).drew w0.heap.size (w0.heap.size + 1) 2 2 3 3 (0, 0) (0, 0) (old_new w0 _ _) (new_new w0 _ _)
  have h2 := h ((w0.alloc (.cells #[.int .i64 2, .int .i64 4] 3)).alloc (.cells #[.int .i64 a, .int .i64 s] 3)).drew (w0.heap.size + 1) w0.heap.size 2 2 3 3 (0, 0) (0, 0) (new_new w0 _ _) (old_new w0 _ _)
  refine ⟨h1.mono ?_, h2.mono ?_⟩
  · rintro e w' ⟨hq, hb⟩
    exact ⟨hq, bt (below_dr (kal (kal (Below.refl _ _) _) _)) hb⟩
  · rintro e w' ⟨hq, hb⟩
    exact ⟨hq, bt (below_dr (kal (kal (Below.refl _ _) _) _)) hb⟩
def Lies (w' : World) (X : Option Addr) (x : Nat) (l : List UInt8) : Prop := l.length ≤ x ∧ x ≤ maxLen ∧ Sl w' w'.heap.size X l
theorem part_form (n : Nat) (A : Option Addr) (c : Nat) (l : List UInt8) (w : World) (hln : l.length = n) (hl : n ≤ 255) (hA : Sl w w.heap.size A l) :
    Calls Tryz.prog 98 #[.slice A n c] w fun e w' => (∃ X x, e = .returned (.tuple #[.slice X (n + 1) x, .int .i64 0]) ∧ Lies w' X x (le 1 n ++ l)) ∧ Below w.heap.size w w' := by
  refine (part_ok n A c l w hln hl hA).mono ?_
  rintro e w' ⟨⟨v, rfl, ho⟩, hb⟩
  obtain ⟨X, x, hv, hx, hm, hs, -⟩ := ho.form
  have : (le 1 n ++ l).length = n + 1 := by rw [List.length_append, le_length]; omega
  rw [this] at hv
  subst hv
  exact ⟨⟨X, x, rfl, hx, hm, hs⟩, hb⟩
theorem concat_two (X1 X2 : Option Addr) (x1 x2 n1 n2 : Nat) (l1 l2 : List UInt8) (W : World) (h1 : l1.length = n1) (h2 : l2.length = n2) (hb : n1 + n2 ≤ 1048576) (s1 : Sl W W.heap.size X1 l1) (s2 : Sl W W.heap.size X2 l2) :
    Calls Tryz.prog 99 #[.slice (some ⟨W.heap.size, 0, none⟩) 2 2] (W.alloc (.cells #[.slice X1 n1 x1, .slice X2 n2 x2] 49)) fun e w' => (∃ X x, e = .returned (.slice X (n1 + n2) x) ∧ Lies w' X x (l1 ++ l2)) ∧ Below W.heap.size W w' := by
  subst h1 h2
  have hB := bl W (.cells #[.slice X1 l1.length x1, .slice X2 l2.length x2] 49)
  have hf : flats [⟨X1, x1, l1⟩, ⟨X2, x2, l2⟩] = l1 ++ l2 := by simp [flats]
  have hc := concat_any (some ⟨W.heap.size, 0, none⟩) 2 _ 2 [⟨X1, x1, l1⟩, ⟨X2, x2, l2⟩] (W.alloc (.cells #[.slice X1 l1.length x1, .slice X2 l2.length x2] 49)) rfl (SlV.of_block (heap_alloc_new W _) rfl (by simp))
    (fun r hr => by
      simp only [List.mem_cons, List.not_mem_nil, or_false] at hr
      rcases hr with rfl | rfl
      · exact (s1.below hB).more hB.size
      · exact (s2.below hB).more hB.size) (Nat.le_refl _) (by omega) (by rw [hf, List.length_append]; exact hb)
  rw [hf] at hc
  refine hc.mono ?_
  rintro e w' ⟨⟨v, rfl, ho⟩, hb'⟩
  obtain ⟨X, x, hv, hx, hm, hs, -⟩ := ho.form
  rw [List.length_append] at hv
  subst hv
  exact ⟨⟨X, x, rfl, hx, hm, hs⟩, bt hB hb'⟩
theorem make_ok' (a s : Int) (A : Option Addr) (n c q : Nat) (w : World) (l L1 L2 L : List UInt8) (e1 : le 1 n ++ l = L1) (e2 : le 2 a.toNat ++ le 4 s.toNat = L2) (e3 : L1 ++ L2 = L) (e4 : sum L = q) (ho : OkS a s) (hln : l.length = n) (hn : n ≤ 96) (hA : Sl w w.heap.size A l) :
    Calls Tryz.prog 83 #[.agg #[.int .i64 a, .int .i64 s, .slice A n c]] w fun e w' => Put w.heap.size (L ++ le 4 q) e w' ∧ Below w.heap.size w w' := by
  have cR := row_two_ok a s ho
  have f1 : L1.length = n + 1 := by rw [← e1, List.length_append, le_length]; omega
  have f2 : L2.length = 6 := by rw [← e2, List.length_append, le_length, le_length]
  have f3 : L.length = n + 1 + 6 := by rw [← e3, List.length_append]; omega
  have hsl : q < 256 ^ 4 := by rw [← e4]; exact sum_lt L
  rw [e2] at cR
  have E1 := Lib.hid e1
  have E3 := Lib.hid e3
  have E4 := Lib.hid e4
  have F1 := Lib.hid f1
  have F2 := Lib.hid f2
  have F3 := Lib.hid f3
  clear e1 e2 e3 e4 f1 f2 f3
  have hb0 := bl w (.cells #[.int .i64 a, .int .i64 s, .slice A n c] 124)
  have g0 : (w.alloc (.cells #[.int .i64 a, .int .i64 s, .slice A n c] 124)).cell? ⟨w.heap.size, 0, none⟩ = some (.int .i64 a) := by rw [cell_of_row _ _ 0 _ _ _ (heap_alloc_new w _)]; rfl
  have g1 : (w.alloc (.cells #[.int .i64 a, .int .i64 s, .slice A n c] 124)).cell? ⟨w.heap.size, 1, none⟩ = some (.int .i64 s) := by rw [cell_of_row _ _ 1 _ _ _ (heap_alloc_new w _)]; rfl
  have g2 : (w.alloc (.cells #[.int .i64 a, .int .i64 s, .slice A n c] 124)).cell? ⟨w.heap.size, 2, none⟩ = some (.slice A n c) := by rw [cell_of_row _ _ 2 _ _ _ (heap_alloc_new w _)]; rfl
  have hl : w.heap.size < (w.alloc (.cells #[.int .i64 a, .int .i64 s, .slice A n c] 124)).heap.size := by simp
  clear ho
  have i1 : ¬ (96 : Int) < (n : Int) := by omega
  go_enter Tryz.func83, Tryz.ntmps83
  go_wp2
  generalize w.alloc (.cells #[.int .i64 a, .int .i64 s, .slice A n c] 124) = w0 at *
  have HR := row_orders w0 cR
  have H1 := Lib.hid HR.1
  have H2 := Lib.hid HR.2
  clear cR HR
  go_region_held3 (fun W => W.cell? ⟨w.heap.size, 0, none⟩ = some (.int .i64 a) ∧ W.cell? ⟨w.heap.size, 1, none⟩ = some (.int .i64 s) ∧ Below w0.heap.size w0 W)
    ((go_split_ands; refine ⟨?_, ?_, ?_⟩ <;> (first
      | assumption | exact below_dr (Below.refl _ _) | exact below_dr (kal (Below.refl _ _) _) | exact below_dr (kal (kal (Below.refl _ _) _) _)
      | exact kst (below_dr (Below.refl _ _)) hl (by assumption) | exact kst (below_dr (kal (Below.refl _ _) _)) hl (by assumption) | exact kst (below_dr (kal (kal (Below.refl _ _) _) _)) hl (by assumption) | exact kst (by assumption) hl (by assumption) | fail)))
    (first
      | (go_at_call 97; (with_reducible refine (sizes_any _).mono ?_); rintro e w1 ⟨rfl, rfl⟩)
      | (go_at_call 96; (with_reducible refine H1.out.mono ?_); rintro e w1 ⟨⟨X1, x1, rfl, hx1, hx1m, hs1⟩, hb1⟩)
      | (go_at_call 96; (with_reducible refine H2.out.mono ?_); rintro e w1 ⟨⟨X1, x1, rfl, hx1, hx1m, hs1⟩, hb1⟩))
  all_goals
    have hb01 := bt hb0 hb1
    have k2 := kst hb1 hl g2
    have cP := part_form n A c l w1 hln (by omega) ((hA.below hb01).more hb01.size)
    have cC := fun (W : World) (X2 : Option Addr) (x2 : Nat) (h : Below w1.heap.size w1 W) (h2 : Lies W X2 x2 L1) => concat_two X2 X1 x2 x1 (n + 1) 6 L1 L2 W F1.out F2.out (by omega) h2.2.2 ((hs1.below h).more h.size)
    have cS := fun (W : World) (X : Option Addr) (x : Nat) (h : Lies W X x L) => of_any X x _ L W h.2.2 (by rw [F3.out]; unfold maxLen; omega)
    have cU : ∀ (W : World) (X : Option Addr) (x : Nat), Lies W X x L → Calls Tryz.prog 100 #[.slice X (n + 1 + 6) x, .int .i64 q, .int .i64 4] W fun e w' => Put W.heap.size (L ++ le 4 q) e w' ∧ Below W.heap.size W w' := fun (W : World) (X : Option Addr) (x : Nat) (h : Lies W X x L) => put_ok 4 q (n + 1 + 6) X x L W (.inr (.inr rfl)) hsl F3.out (by omega) h.2.2
    rw [E1.out] at cP
    rw [E3.out] at cC
    rw [E4.out, F3.out] at cS
    have HP := Lib.hid cP
    have HC := Lib.hid cC
    have HS := Lib.hid cS
    have HU := Lib.hid cU
    clear H1 H2 g0 g1 hA cP cC cS cU hln
    go_wp2_with (first
      | (go_at_call 98; (with_reducible refine HP.out.mono ?_); rintro e w2 ⟨⟨X2, x2, rfl, hs2⟩, hb2⟩; have k3 := kst (bt hb1 hb2) hl g2)
      | (go_at_call 99; (with_reducible refine (HC.out _ _ _ hb2 hs2).mono ?_); rintro e w3 ⟨⟨X3, x3, rfl, hs3⟩, hb3⟩)
      | (go_at_call 90; (with_reducible refine (HS.out _ _ _ hs3).mono ?_); rintro e w4 ⟨rfl, rfl⟩)
      | (go_at_call 100; (with_reducible refine (HU.out _ _ _ hs3).mono ?_); rintro e w5 ⟨⟨v5, rfl, hown5⟩, hb5⟩))
    have hb05 := bt hb01 (bt hb2 hb3)
    go_ret2
    exact ⟨⟨v5, rfl, hown5.less hb05.size⟩, bt hb05 hb5⟩
theorem make_ok (a s : Int) (A : Option Addr) (n c : Nat) (w : World) (l : List UInt8) (ho : OkS a s) (hln : l.length = n) (hn : n ≤ 96) (hA : Sl w w.heap.size A l) :
    Calls Tryz.prog 83 #[.agg #[.int .i64 a, .int .i64 s, .slice A n c]] w fun e w' => Put w.heap.size (enc a.toNat s.toNat l) e w' ∧ Below w.heap.size w w' := by
  have := make_ok' a s A n c _ w l _ _ _ rfl rfl rfl rfl ho hln hn hA
  subst hln
  exact this
end Go.Proofs.YtbfdpibjicjagaaGreatDoor.sel
namespace Go.Proofs.YtbfdpibjicjagaaGreatDoor.sel
open Go.RowKit Go.Lib
open Go.Proofs.YtbfdpibjicjagaaGreatDoor.crc (sum of_any)
open Go.Proofs.YtbfdpibjicjagaaGreatDoor.pck (Parted Unrowed unrow num le le_length unpart_ok unpart_no unrow_any own_far)
def Opened (base : Nat) (r : Opn) (e : Ending) (w' : World) : Prop := ∃ v, e = .returned (.tuple #[.agg #[.int .i64 r.addr, .int .i64 r.stamp, v], .int .i64 r.err]) ∧ Own w' base 5 v r.load
def Refused (err : Int) (e : Ending) : Prop := e = .returned (.tuple #[.agg #[.int .i64 0, .int .i64 0, .slice none 0 0], .int .i64 err])
structure Three (W : World) (g : Nat) (a b c : Value) : Prop where
  c0 : W.cell? ⟨g, 0, none⟩ = some a
  c1 : W.cell? ⟨g, 1, none⟩ = some b
  c2 : W.cell? ⟨g, 2, none⟩ = some c
  f0 : W.frozen? ⟨g, 0, none⟩ = false
  f1 : W.frozen? ⟨g, 1, none⟩ = false
  f2 : W.frozen? ⟨g, 2, none⟩ = false
theorem three_new (w : World) (a b c : Value) (t : TypeId) : Three (w.alloc (.cells #[a, b, c] t)) w.heap.size a b c := by
  have h := heap_alloc_new w (.cells #[a, b, c] t)
  refine ⟨?_, ?_, ?_, ?_, ?_, ?_⟩
  · rw [cell_of_row _ _ 0 _ _ _ h]; rfl
  · rw [cell_of_row _ _ 1 _ _ _ h]; rfl
  · rw [cell_of_row _ _ 2 _ _ _ h]; rfl
  all_goals exact World.frozen?_alloc_new _ _ _ _
theorem Three.keep {W W' : World} {g B : Nat} {a b c : Value} (h : Three W g a b c) (hb : Below B W W') (hg : g < B) : Three W' g a b c :=
  ⟨(hb.cell (p := ⟨g, 0, none⟩) hg).trans h.c0, (hb.cell (p := ⟨g, 1, none⟩) hg).trans h.c1, (hb.cell (p := ⟨g, 2, none⟩) hg).trans h.c2,
   (hb.frozen (p := ⟨g, 0, none⟩) hg).trans h.f0, (hb.frozen (p := ⟨g, 1, none⟩) hg).trans h.f1, (hb.frozen (p := ⟨g, 2, none⟩) hg).trans h.f2⟩
theorem Three.set {W : World} {g : Nat} {a b c : Value} (h : Three W g a b c) (a' b' c' : Value) : Three (((W.setCell ⟨g, 0, none⟩ a').setCell ⟨g, 1, none⟩ b').setCell ⟨g, 2, none⟩ c') g a' b' c' := by
  have n01 : (⟨g, 0, none⟩ : Addr) ≠ ⟨g, 1, none⟩ := by simp
  have n02 : (⟨g, 0, none⟩ : Addr) ≠ ⟨g, 2, none⟩ := by simp
  have n12 : (⟨g, 1, none⟩ : Addr) ≠ ⟨g, 2, none⟩ := by simp
  refine ⟨?_, ?_, ?_, ?_, ?_, ?_⟩
  · rw [World.cell?_setCell_other _ _ _ _ n02.symm, World.cell?_setCell_other _ _ _ _ n01.symm]
    exact World.cell?_setCell_same _ _ _ h.c0
  · rw [World.cell?_setCell_other _ _ _ _ n12.symm]
    refine World.cell?_setCell_same _ _ _ (u := b) ?_
    rw [World.cell?_setCell_other _ _ _ _ n01]
    exact h.c1
  · refine World.cell?_setCell_same _ _ _ (u := c) ?_
    rw [World.cell?_setCell_other _ _ _ _ n12, World.cell?_setCell_other _ _ _ _ n02]
    exact h.c2
  · rw [World.frozen?_setCell, World.frozen?_setCell, World.frozen?_setCell]; exact h.f0
  · rw [World.frozen?_setCell, World.frozen?_setCell, World.frozen?_setCell]; exact h.f1
  · rw [World.frozen?_setCell, World.frozen?_setCell, World.frozen?_setCell]; exact h.f2
theorem Three.below {B : Nat} {a W : World} (h : Below B a W) {g : Nat} (hg : B ≤ g) (x y z : Value) : Below B a (((W.setCell ⟨g, 0, none⟩ x).setCell ⟨g, 1, none⟩ y).setCell ⟨g, 2, none⟩ z) :=
  ((h.setCell hg x).setCell hg y).setCell hg z
theorem Three.drew {W : World} {g : Nat} {a b c : Value} (h : Three W g a b c) : Three W.drew g a b c := ⟨h.c0, h.c1, h.c2, h.f0, h.f1, h.f2⟩
theorem own_three {W : World} {base g : Nat} {e : TypeId} {v : Value} {l : List UInt8} (h : Own W base e v l) (hg : g < base) (x y z : Value) : Own (((W.setCell ⟨g, 0, none⟩ x).setCell ⟨g, 1, none⟩ y).setCell ⟨g, 2, none⟩ z) base e v l := by
  have hne : v.ownBlock ≠ some g := fun k => by have := (World.ownsRow.lt h g k).1; omega
  exact ownsRow_setCell_other (ownsRow_setCell_other (ownsRow_setCell_other h hne x) hne y) hne z
theorem parse_no1 (m : Nat) (A : Option Addr) (c : Nat) (b : List UInt8) (w : World) (hlen : b.length = m) (h : m < 1 + num (b.take 1)) (hc : m ≤ c) (hx : c ≤ maxLen) (hA : Sl w w.heap.size A b) :
    Calls Tryz.prog 91 #[.slice A m c] w fun e w' => Refused 4 e ∧ Below w.heap.size w w' := by
  have h3 := three_new w (.int .i64 0) (.int .i64 0) (.slice none 0 0) 124
  have hb0 := bl w (.cells #[.int .i64 0, .int .i64 0, .slice none 0 0] 124)
  have hl : w.heap.size < (w.alloc (.cells #[.int .i64 0, .int .i64 0, .slice none 0 0] 124)).heap.size := by simp
  have cU := unpart_no m A c b _ hlen h hc hx ((hA.below hb0).more hb0.size)
  clear h hlen hA
  go_enter Tryz.func91, Tryz.ntmps91
  go_wp2_with fail
  generalize w.alloc (.cells #[.int .i64 0, .int .i64 0, .slice none 0 0] 124) = w0 at *
  go_wp2_with (first
    | (go_at_call 107; (with_reducible refine cU.mono ?_); rintro e w1 ⟨rfl, hb1⟩; have k3 := h3.keep hb1 hl; obtain ⟨k0, k1, k2, z0, z1, z2⟩ := id k3))
  have k4 := k3.set (.int .i64 0) (.int .i64 0) (.slice none 0 0)
  refine bodyPost_ret (v := .tuple #[.agg #[.int .i64 0, .int .i64 0, .slice none 0 0], .int .i64 4]) (by simp [results, Tryz.results91, go_sem, k4.c0, k4.c1, k4.c2]) rfl ⟨rfl, Three.below (bt hb0 hb1) (Nat.le_refl _) _ _ _⟩
theorem unrow_two_short {r : List UInt8} (h : r.length < 6) : unrow [2, 4] r = .error 4 := by
  have t2 : Int.toNat 2 = 2 := rfl
  have t4 : Int.toNat 4 = 4 := rfl
  rw [unrow, if_pos (.inr (.inl rfl)), t2]
  by_cases h2 : r.length < 2
  · rw [if_pos h2]
  · rw [if_neg h2, unrow, if_pos (.inr (.inr rfl)), t4, if_pos (by rw [List.length_drop]; omega)]
theorem unrow_two_long {r : List UInt8} (h : 6 ≤ r.length) : unrow [2, 4] r = .ok ([(num (r.take 2) : Int), (num ((r.drop 2).take 4) : Int)], r.drop 6) := by
  have t2 : Int.toNat 2 = 2 := rfl
  have t4 : Int.toNat 4 = 4 := rfl
  rw [unrow, if_pos (.inr (.inl rfl)), t2, if_neg (show ¬ r.length < 2 by omega), unrow, if_pos (.inr (.inr rfl)), t4, if_neg (by rw [List.length_drop]; omega)]
  simp [unrow]
theorem unrow_short (n : Nat) (X : Option Addr) (x : Nat) (r : List UInt8) (w : World) (hn : r.length = n) (h : n < 6) (hx : n ≤ x) (hm : x ≤ maxLen) (hs : Sl w w.heap.size X r) :
    Calls Tryz.prog 108 #[.slice X n x, .slice (some ⟨w.heap.size, 0, none⟩) 2 2] (w.alloc (.cells #[.int .i64 2, .int .i64 4] 3)) fun e w' => e = .returned (.tuple #[.slice none 0 0, .slice none 0 0, .int .i64 4]) ∧ Below w.heap.size w w' := by
  have hb := bl w (.cells #[.int .i64 2, .int .i64 4] 3)
  have h := unrow_any n 2 X (some ⟨w.heap.size, 0, none⟩) x 2 r [2, 4] _ hn rfl (by omega) hx hm (by omega) ((hs.below hb).more hb.size) (SlV.of_block (heap_alloc_new w _) rfl (by simp))
  rw [unrow_two_short (by omega)] at h
  refine h.mono ?_
  rintro e w' ⟨he, hb'⟩
  exact ⟨he, bt hb hb'⟩
def TwoNums (a s n : Nat) (e : Ending) (w' : World) : Prop := ∃ g c X x, e = .returned (.tuple #[.slice (some ⟨g, 0, none⟩) 2 c, .slice X n x, .int .i64 0]) ∧ w'.cell? ⟨g, 0, none⟩ = some (.int .i64 a) ∧ w'.cell? ⟨g, 1, none⟩ = some (.int .i64 s)
theorem unrow_long (n : Nat) (X : Option Addr) (x : Nat) (r : List UInt8) (w : World) (hn : r.length = n) (h : 6 ≤ n) (hl : n ≤ 1048576) (hx : n ≤ x) (hm : x ≤ maxLen) (hs : Sl w w.heap.size X r) :
    Calls Tryz.prog 108 #[.slice X n x, .slice (some ⟨w.heap.size, 0, none⟩) 2 2] (w.alloc (.cells #[.int .i64 2, .int .i64 4] 3)) fun e w' => TwoNums (num (r.take 2)) (num ((r.drop 2).take 4)) (n - 6) e w' ∧ Below w.heap.size w w' := by
  have hb := bl w (.cells #[.int .i64 2, .int .i64 4] 3)
  have h := unrow_any n 2 X (some ⟨w.heap.size, 0, none⟩) x 2 r [2, 4] _ hn rfl (by omega) hx hm (by omega) ((hs.below hb).more hb.size) (SlV.of_block (heap_alloc_new w _) rfl (by simp))
  rw [unrow_two_long (by omega)] at h
  refine h.mono ?_
  rintro e w' ⟨⟨v, u, rfl, hv, hu⟩, hb'⟩
  obtain ⟨g, c, rfl, -, -, -, -⟩ := hv.at (by simp [ints])
  obtain ⟨X', x', rfl, -, -, -, -⟩ := hu.form
  rw [List.length_drop, hn]
  exact ⟨⟨g, c, X', x', rfl, hv.cell 0 (by simp [ints]), hv.cell 1 (by simp [ints])⟩, bt hb hb'⟩
def Pieces (base : Nat) (l r : List UInt8) (n k : Nat) (e : Ending) (w' : World) : Prop := ∃ V x U y, e = .returned (.tuple #[.slice V n x, .slice U k y, .int .i64 0]) ∧ Own w' base 5 (.slice V n x) l ∧ Lies w' U y r
theorem unpart_form (m k : Nat) (A : Option Addr) (c : Nat) (b : List UInt8) (w : World) (hlen : b.length = m) (h1 : 1 ≤ m) (hk : num (b.take 1) = k) (hkm : k ≤ m - 1) (hc : m ≤ c) (hx : c ≤ maxLen) (hl : m ≤ 1048576) (hA : Sl w w.heap.size A b) :
    Calls Tryz.prog 107 #[.slice A m c] w fun e w' => Pieces w.heap.size ((b.drop 1).take k) ((b.drop 1).drop k) k (m - 1 - k) e w' ∧ Below w.heap.size w w' := by
  refine (unpart_ok m k A c b w hlen h1 hk hkm hc hx (by omega) hA).mono ?_
  rintro e w' ⟨⟨v, u, rfl, hv, hu⟩, hb⟩
  have e1 : ((b.drop 1).take k).length = k := by rw [List.length_take, List.length_drop]; omega
  have e2 : ((b.drop 1).drop k).length = m - 1 - k := by rw [List.length_drop, List.length_drop]; omega
  obtain ⟨V, x, rfl, -, -, -, -⟩ := hv.form
  obtain ⟨U, y, rfl, hy1, hy2, hy3, -⟩ := hu.form
  rw [e1] at hv
  refine ⟨⟨V, x, U, y, by rw [e1, e2], hv, hy1, hy2, hy3⟩, hb⟩
theorem parse_no2 (m k n : Nat) (A : Option Addr) (c : Nat) (b : List UInt8) (w : World) (hlen : b.length = m) (h1 : 1 ≤ m) (hk : num (b.take 1) = k) (hkm : k ≤ m - 1) (hn : m - 1 - k = n) (h6 : n < 6) (hc : m ≤ c) (hx : c ≤ maxLen) (hm : m ≤ 1048576) (hA : Sl w w.heap.size A b) :
    Calls Tryz.prog 91 #[.slice A m c] w fun e w' => Refused 4 e ∧ Below w.heap.size w w' := by
  have h3 := three_new w (.int .i64 0) (.int .i64 0) (.slice none 0 0) 124
  have hb0 := bl w (.cells #[.int .i64 0, .int .i64 0, .slice none 0 0] 124)
  have hl : w.heap.size < (w.alloc (.cells #[.int .i64 0, .int .i64 0, .slice none 0 0] 124)).heap.size := by simp
  have cU := unpart_form m k A c b _ hlen h1 hk hkm hc hx hm ((hA.below hb0).more hb0.size)
  have hr : ((b.drop 1).drop k).length = n := by rw [List.length_drop, List.length_drop]; omega
  rw [hn] at cU
  generalize (b.drop 1).drop k = r at *
  have cR := fun (W : World) (U : Option Addr) (y : Nat) (h : Lies W U y r) => unrow_short n U y r W hr h6 (by rw [← hr]; exact h.1) h.2.1 h.2.2
  have HR := Lib.hid cR
  clear hk hlen hA hr hn cR
  go_enter Tryz.func91, Tryz.ntmps91
  go_wp2_with fail
  generalize w.alloc (.cells #[.int .i64 0, .int .i64 0, .slice none 0 0] 124) = w0 at *
  go_wp2_with (first
    | (go_at_call 107; (with_reducible refine cU.mono ?_); rintro e w1 ⟨⟨V, x, U, y, rfl, hv, hu⟩, hb1⟩)
    | (go_at_call 97; (with_reducible refine (sizes_any _).mono ?_); rintro e w2 ⟨rfl, rfl⟩)
    | (go_at_call 108; (with_reducible refine (HR.out _ _ _ hu).mono ?_); rintro e w3 ⟨rfl, hb3⟩; have k3 := h3.keep (bt hb1 hb3) hl; obtain ⟨k0, k1, k2, z0, z1, z2⟩ := id k3))
  have k4 := k3.set (.int .i64 0) (.int .i64 0) (.slice none 0 0)
  refine bodyPost_ret (v := .tuple #[.agg #[.int .i64 0, .int .i64 0, .slice none 0 0], .int .i64 4]) (by simp [results, Tryz.results91, go_sem, k4.c0, k4.c1, k4.c2]) rfl ⟨rfl, Three.below (bt hb0 (bt hb1 hb3)) (Nat.le_refl _) _ _ _⟩
theorem parse_no3 (m k n : Nat) (A : Option Addr) (c : Nat) (b : List UInt8) (w : World) (hlen : b.length = m) (h1 : 1 ≤ m) (hk : num (b.take 1) = k) (hkm : k ≤ m - 1) (hn : m - 1 - k = n) (h6 : 6 < n) (hc : m ≤ c) (hx : c ≤ maxLen) (hm : m ≤ 1048576) (hA : Sl w w.heap.size A b) :
    Calls Tryz.prog 91 #[.slice A m c] w fun e w' => Refused 4 e ∧ Below w.heap.size w w' := by
  have h3 := three_new w (.int .i64 0) (.int .i64 0) (.slice none 0 0) 124
  have hb0 := bl w (.cells #[.int .i64 0, .int .i64 0, .slice none 0 0] 124)
  have hl : w.heap.size < (w.alloc (.cells #[.int .i64 0, .int .i64 0, .slice none 0 0] 124)).heap.size := by simp
  have cU := unpart_form m k A c b _ hlen h1 hk hkm hc hx hm ((hA.below hb0).more hb0.size)
  have hr : ((b.drop 1).drop k).length = n := by rw [List.length_drop, List.length_drop]; omega
  rw [hn] at cU
  generalize (b.drop 1).drop k = r at *
  have cR := fun (W : World) (U : Option Addr) (y : Nat) (h : Lies W U y r) => unrow_long n U y r W hr (by omega) (by omega) (by rw [← hr]; exact h.1) h.2.1 h.2.2
  unfold TwoNums at cR
  obtain ⟨q, hq⟩ : ∃ q, n - 6 = q := ⟨_, rfl⟩
  have i1 : (0 : Int) < (q : Int) := by omega
  rw [hq] at cR
  have HR := Lib.hid cR
  clear hk hlen hA hr hn cR hq
  go_enter Tryz.func91, Tryz.ntmps91
  go_wp2_with fail
  generalize w.alloc (.cells #[.int .i64 0, .int .i64 0, .slice none 0 0] 124) = w0 at *
  go_wp2_with (first
    | (go_at_call 107; (with_reducible refine cU.mono ?_); rintro e w1 ⟨⟨V, x, U, y, rfl, hv, hu⟩, hb1⟩)
    | (go_at_call 97; (with_reducible refine (sizes_any _).mono ?_); rintro e w2 ⟨rfl, rfl⟩)
    | (go_at_call 108; (with_reducible refine (HR.out _ _ _ hu).mono ?_); rintro e w3 ⟨⟨g, gc, X, xc, rfl, gk0, gk1⟩, hb3⟩; have k3 := h3.keep (bt hb1 hb3) hl; obtain ⟨k0, k1, k2, z0, z1, z2⟩ := id k3))
  have k4 := k3.set (.int .i64 0) (.int .i64 0) (.slice none 0 0)
  refine bodyPost_ret (v := .tuple #[.agg #[.int .i64 0, .int .i64 0, .slice none 0 0], .int .i64 4]) (by simp [results, Tryz.results91, go_sem, k4.c0, k4.c1, k4.c2]) rfl ⟨rfl, Three.below (bt hb0 (bt hb1 hb3)) (Nat.le_refl _) _ _ _⟩
theorem parse_ok (m k n : Nat) (A : Option Addr) (c : Nat) (b : List UInt8) (w : World) (hlen : b.length = m) (h1 : 1 ≤ m) (hk : num (b.take 1) = k) (hkm : k ≤ m - 1) (hn : m - 1 - k = n) (h6 : n = 6) (hc : m ≤ c) (hx : c ≤ maxLen) (hm : m ≤ 1048576) (hA : Sl w w.heap.size A b) :
    Calls Tryz.prog 91 #[.slice A m c] w fun e w' => Opened w.heap.size ⟨0, num ((b.drop (m - 6)).take 2), num ((b.drop (m - 4)).take 4), (b.drop 1).take k⟩ e w' ∧ Below w.heap.size w w' := by
  have h3 := three_new w (.int .i64 0) (.int .i64 0) (.slice none 0 0) 124
  have hb0 := bl w (.cells #[.int .i64 0, .int .i64 0, .slice none 0 0] 124)
  have hl : w.heap.size < (w.alloc (.cells #[.int .i64 0, .int .i64 0, .slice none 0 0] 124)).heap.size := by simp
  have cU := unpart_form m k A c b _ hlen h1 hk hkm hc hx hm ((hA.below hb0).more hb0.size)
  have hr : ((b.drop 1).drop k).length = n := by rw [List.length_drop, List.length_drop]; omega
  rw [hn] at cU
  have j1 : (b.drop 1).drop k = b.drop (m - 6) := by rw [List.drop_drop]; congr 1; omega
  have j2 : b.drop (m - 4) = (b.drop (m - 6)).drop 2 := by rw [List.drop_drop]; congr 1; omega
  rw [j2, ← j1]
  have e1 : ((b.drop 1).take k).length = k := by rw [List.length_take, List.length_drop]; omega
  have E1 := Lib.hid e1
  clear j1 j2 e1
  generalize (b.drop 1).drop k = r at *
  generalize (b.drop 1).take k = p at *
  have cR := fun (W : World) (U : Option Addr) (y : Nat) (h : Lies W U y r) => unrow_long n U y r W hr (by omega) (by omega) (by rw [← hr]; exact h.1) h.2.1 h.2.2
  unfold TwoNums at cR
  subst h6
  rw [Nat.sub_self] at cR
  generalize num (r.take 2) = q1 at *
  generalize num ((r.drop 2).take 4) = q2 at *
  have HR := Lib.hid cR
  clear hk hlen hA hr hn cR
  go_enter Tryz.func91, Tryz.ntmps91
  go_wp2_with fail
  generalize w.alloc (.cells #[.int .i64 0, .int .i64 0, .slice none 0 0] 124) = w0 at *
  go_wp2_with (first
    | (go_at_call 107; (with_reducible refine cU.mono ?_); rintro e w1 ⟨⟨V, x, U, y, rfl, hv, hu⟩, hb1⟩)
    | (go_at_call 97; (with_reducible refine (sizes_any _).mono ?_); rintro e w2 ⟨rfl, rfl⟩)
    | (go_at_call 108; (with_reducible refine (HR.out _ _ _ hu).mono ?_); rintro e w3 ⟨⟨g, gc, X, xc, rfl, gk0, gk1⟩, hb3⟩; have k3 := h3.keep (bt hb1 hb3) hl; obtain ⟨k0, k1, k2, z0, z1, z2⟩ := id k3))
  go_still_tail 8, (by kernel_rfl)
  change wpList _ _ _ _ _ w3.drew
  have hb13 := bt hb1 hb3
  have k4 := k3.drew
  have hb4 := below_dr (bt hb0 hb13)
  have hv4 := (hv.below hb3).drew
  clear k0 k1 k2 z0 z1 z2 gk0 gk1 k3 h3 hb3
  generalize w3.drew = w4 at *
  obtain ⟨k0, k1, k2, z0, z1, z2⟩ := id k4
  go_wp2
  have k5 := k4.set (.int .i64 q1) (.int .i64 q2) (.slice V k x)
  refine bodyPost_ret (v := .tuple #[.agg #[.int .i64 q1, .int .i64 q2, .slice V k x], .int .i64 0]) (by simp [results, Tryz.results91, go_sem, k5.c0, k5.c1, k5.c2]) rfl ⟨⟨_, rfl, (own_three hv4 hl _ _ _).less hb0.size⟩, Three.below hb4 (Nat.le_refl _) _ _ _⟩
theorem Refused.opened {base err : Nat} {e : Ending} {w : World} (h : Refused err e) : Opened base (no err) e w := ⟨_, h, own_nil _ _ _⟩
theorem parse_any (n : Nat) (A : Option Addr) (c : Nat) (b : List UInt8) (w : World) (hlen : b.length = n + 7) (hc : n + 7 ≤ c) (hx : c ≤ maxLen) (hm : n ≤ 1000) (hA : Sl w w.heap.size A b) :
    Calls Tryz.prog 91 #[.slice A (n + 7 : Nat) c] w fun e w' => Opened w.heap.size (if num (b.take 1) = n then ⟨0, num ((b.drop (n + 1)).take 2), num ((b.drop (n + 3)).take 4), (b.drop 1).take n⟩ else no 4) e w' ∧ Below w.heap.size w w' := by
  by_cases h : num (b.take 1) = n
  · rw [if_pos h]
    exact parse_ok (n + 7) n 6 A c b w hlen (by omega) h (by omega) (by omega) rfl hc hx (by omega) hA
  · rw [if_neg h]
    refine Calls.mono (R := fun e w' => Refused 4 e ∧ Below w.heap.size w w') ?_ (fun e w' hq => ⟨Refused.opened (err := 4) hq.1, hq.2⟩)
    by_cases h1 : n + 7 < 1 + num (b.take 1)
    · exact parse_no1 (n + 7) A c b w hlen h1 hc hx hA
    · by_cases h2 : n + 7 - 1 - num (b.take 1) < 6
      · exact parse_no2 (n + 7) _ _ A c b w hlen (by omega) rfl (by omega) rfl h2 hc hx (by omega) hA
      · exact parse_no3 (n + 7) _ _ A c b w hlen (by omega) rfl (by omega) rfl (by omega) hc hx (by omega) hA
theorem open_long (n c : Nat) (A : Option Addr) (w : World) (h : n < 11 ∨ 107 < n) :
    Calls Tryz.prog 80 #[.slice A n c] w fun e w' => Refused 4 e ∧ Below w.heap.size w w' := by
  have h3 := three_new w (.int .i64 0) (.int .i64 0) (.slice none 0 0) 124
  have hb0 := bl w (.cells #[.int .i64 0, .int .i64 0, .slice none 0 0] 124)
  rcases h with h | h
  · have i1 : (n : Int) < 11 := by omega
    clear h
    go_enter Tryz.func80, Tryz.ntmps80
    go_wp2
    refine bodyPost_ret (v := .tuple #[.agg #[.int .i64 0, .int .i64 0, .slice none 0 0], .int .i64 4]) (by simp [results, Tryz.results80, go_sem]) rfl ⟨rfl, hb0⟩
  · have i1 : ¬ (n : Int) < 11 := by omega
    have i2 : (107 : Int) < (n : Int) := by omega
    clear h
    go_enter Tryz.func80, Tryz.ntmps80
    go_wp2
    refine bodyPost_ret (v := .tuple #[.agg #[.int .i64 0, .int .i64 0, .slice none 0 0], .int .i64 4]) (by simp [results, Tryz.results80, go_sem]) rfl ⟨rfl, hb0⟩
theorem get_tail (m b0 off c : Nat) (b : List UInt8) (w : World) (hlen : b.length = m + 4) (hm : m ≤ 1000) (hc : m + 4 ≤ c) (hx : c ≤ maxLen) (hA : Sl w w.heap.size (some ⟨b0, off, none⟩) b) :
    Calls Tryz.prog 89 #[.slice (some ⟨b0, off + m, none⟩) 4 (c - m), .int .i64 4] w fun e w' => (∃ X q x, e = .returned (.tuple #[.int .i64 (num (b.drop m)), .slice X q x, .int .i64 0])) ∧ Below w.heap.size w w' := by
  have hd : (b.drop m).length = 4 := by rw [List.length_drop]; omega
  have := Go.Proofs.YtbfdpibjicjagaaGreatDoor.pck.get_ok 4 4 (some ⟨b0, off + m, none⟩) (c - m) (b.drop m) w (.inr (.inr rfl)) hd (Nat.le_refl _) (by omega) (by omega) (by omega) (hA.drop m)
  refine this.mono ?_
  rintro e w' ⟨⟨v, rfl, ho⟩, hb⟩
  obtain ⟨X, x, rfl, -, -, -, -⟩ := ho.form
  rw [List.take_of_length_le (by omega)]
  exact ⟨⟨X, _, x, rfl⟩, hb⟩
theorem of_head (m b0 off c : Nat) (b : List UInt8) (w : World) (hlen : b.length = m + 4) (hm : m ≤ 1000) (hA : Sl w w.heap.size (some ⟨b0, off, none⟩) b) :
    Calls Tryz.prog 90 #[.slice (some ⟨b0, off, none⟩) m c] w fun e w' => e = .returned (.int .i64 (sum (b.take m))) ∧ w = w' := by
  have ht : (b.take m).length = m := by rw [List.length_take]; omega
  have := of_any (some ⟨b0, off, none⟩) c _ (b.take m) w (hA.take m) (by unfold maxLen; omega)
  rwa [ht] at this
theorem open_sum (m b0 off c : Nat) (b : List UInt8) (w : World) (hlen : b.length = m + 4) (h7 : 7 ≤ m) (hm : m ≤ 103) (hc : m + 4 ≤ c) (hx : c ≤ maxLen) (hA : Sl w w.heap.size (some ⟨b0, off, none⟩) b) (hw : ¬ Whole b) :
    Calls Tryz.prog 80 #[.slice (some ⟨b0, off, none⟩) (m + 4 : Nat) c] w fun e w' => Refused 5 e ∧ Below w.heap.size w w' := by
  have h3 := three_new w (.int .i64 0) (.int .i64 0) (.slice none 0 0) 124
  have hb0 := bl w (.cells #[.int .i64 0, .int .i64 0, .slice none 0 0] 124)
  have hl : w.heap.size < (w.alloc (.cells #[.int .i64 0, .int .i64 0, .slice none 0 0] 124)).heap.size := by simp
  have i1 : ¬ (m : Int) + 4 < 11 := by omega
  have i2 : ¬ (107 : Int) < (m : Int) + 4 := by omega
  have hA0 := (hA.below hb0).more hb0.size
  have cG := get_tail m b0 off c b _ hlen (by omega) hc hx hA0
  have cO := fun (W : World) (hb : Below _ _ W) => of_head m b0 off c b W hlen (by omega) ((hA0.below hb).more hb.size)
  have hne : num (b.drop m) ≠ sum (b.take m) := by
    unfold Whole at hw
    rwa [hlen, Nat.add_sub_cancel] at hw
  generalize num (b.drop m) = x at *
  generalize sum (b.take m) = y at *
  have n1 : ((x : Int) == (y : Int)) = false := beq_eq_false_iff_ne.2 (by omega)
  have n2 : ((x : Int) != (y : Int)) = true := bne_iff_ne.2 (by omega)
  have n3 : (x == y) = false := beq_eq_false_iff_ne.2 hne
  have n4 : (x != y) = true := bne_iff_ne.2 hne
  have HO := Lib.hid cO
  clear hw hA hA0 hlen hne cO
  go_enter Tryz.func80, Tryz.ntmps80
  go_wp2_with fail
  generalize w.alloc (.cells #[.int .i64 0, .int .i64 0, .slice none 0 0] 124) = w0 at *
  go_wp2_with (first
    | (go_at_call 89; (with_reducible refine cG.mono ?_); rintro e w1 ⟨⟨X, q, xc, rfl⟩, hb1⟩; have k3 := h3.keep hb1 hl; obtain ⟨k0, k1, k2, z0, z1, z2⟩ := id k3)
    | (go_at_call 90; (with_reducible refine (HO.out _ hb1).mono ?_); rintro e w2 ⟨rfl, rfl⟩))
  have k4 := k3.set (.int .i64 0) (.int .i64 0) (.slice none 0 0)
  refine bodyPost_ret (v := .tuple #[.agg #[.int .i64 0, .int .i64 0, .slice none 0 0], .int .i64 5]) (by simp [results, Tryz.results80, go_sem, k4.c0, k4.c1, k4.c2]) rfl ⟨rfl, Three.below (bt hb0 hb1) (Nat.le_refl _) _ _ _⟩
def OpenedAt (base : Nat) (r : Opn) (e : Ending) (w' : World) : Prop := ∃ X q x, e = .returned (.tuple #[.agg #[.int .i64 r.addr, .int .i64 r.stamp, .slice X q x], .int .i64 r.err]) ∧ Own w' base 5 (.slice X q x) r.load
theorem Opened.at {base : Nat} {r : Opn} {e : Ending} {w : World} (h : Opened base r e w) : OpenedAt base r e w := by
  obtain ⟨v, rfl, ho⟩ := h
  obtain ⟨X, x, rfl, -, -, -, -⟩ := ho.form
  exact ⟨X, _, x, rfl, ho⟩
theorem open_whole (m b0 off c : Nat) (b : List UInt8) (r : Opn) (w : World) (hlen : b.length = m + 4) (h7 : 7 ≤ m) (hm : m ≤ 103) (hc : m + 4 ≤ c) (hx : c ≤ maxLen) (hA : Sl w w.heap.size (some ⟨b0, off, none⟩) b) (hw : Whole b)
    (cP : ∀ W, Sl W W.heap.size (some ⟨b0, off, none⟩) b → Calls Tryz.prog 91 #[.slice (some ⟨b0, off, none⟩) m c] W fun e w' => OpenedAt W.heap.size r e w' ∧ Below W.heap.size W w') :
    Calls Tryz.prog 80 #[.slice (some ⟨b0, off, none⟩) (m + 4 : Nat) c] w fun e w' => Opened w.heap.size r e w' ∧ Below w.heap.size w w' := by
  have h3 := three_new w (.int .i64 0) (.int .i64 0) (.slice none 0 0) 124
  have hb0 := bl w (.cells #[.int .i64 0, .int .i64 0, .slice none 0 0] 124)
  have hl : w.heap.size < (w.alloc (.cells #[.int .i64 0, .int .i64 0, .slice none 0 0] 124)).heap.size := by simp
  have i1 : ¬ (m : Int) + 4 < 11 := by omega
  have i2 : ¬ (107 : Int) < (m : Int) + 4 := by omega
  have hA0 := (hA.below hb0).more hb0.size
  have cG := get_tail m b0 off c b _ hlen (by omega) hc hx hA0
  have cO := fun (W : World) (hb : Below _ _ W) => of_head m b0 off c b W hlen (by omega) ((hA0.below hb).more hb.size)
  have cQ := fun (W : World) (hb : Below _ _ W) => cP W ((hA0.below hb).more hb.size)
  have hne : num (b.drop m) = sum (b.take m) := by
    unfold Whole at hw
    rwa [hlen, Nat.add_sub_cancel] at hw
  rw [← hne] at cO
  generalize num (b.drop m) = x at *
  have n2 : ((x : Int) != (x : Int)) = false := bne_self_eq_false _
  obtain ⟨err, ad, st, ld⟩ := r
  unfold OpenedAt at cQ
  simp only at cQ
  have HO := Lib.hid cO
  have HQ := Lib.hid cQ
  clear hw hA hA0 hlen hne cO cP cQ
  go_enter Tryz.func80, Tryz.ntmps80
  go_wp2_with fail
  generalize w.alloc (.cells #[.int .i64 0, .int .i64 0, .slice none 0 0] 124) = w0 at *
  go_wp2_with (first
    | (go_at_call 89; (with_reducible refine cG.mono ?_); rintro e w1 ⟨⟨X, q, xc, rfl⟩, hb1⟩)
    | (go_at_call 90; (with_reducible refine (HO.out _ hb1).mono ?_); rintro e w2 ⟨rfl, rfl⟩)
    | (go_at_call 91; (with_reducible refine (HQ.out _ hb1).mono ?_); rintro e w3 ⟨⟨Y, p, y, rfl, hown⟩, hb3⟩; have k3 := h3.keep (bt hb1 hb3) hl; obtain ⟨k0, k1, k2, z0, z1, z2⟩ := id k3))
  have k4 := k3.set (.int .i64 ad) (.int .i64 st) (.slice Y p y)
  have hb13 := bt hb0 hb1
  refine bodyPost_ret (v := .tuple #[.agg #[.int .i64 ad, .int .i64 st, .slice Y p y], .int .i64 err]) (by simp [results, Tryz.results80, go_sem, k4.c0, k4.c1, k4.c2]) rfl ⟨⟨_, rfl, (own_three hown (Nat.lt_of_lt_of_le hl hb1.size) _ _ _).less hb13.size⟩, Three.below (bt hb13 hb3) (Nat.le_refl _) _ _ _⟩
theorem inner {b : List UInt8} {m i k : Nat} (h : i + k ≤ m) : ((b.take m).drop i).take k = (b.drop i).take k := by
  rw [List.drop_take, List.take_take, Nat.min_eq_left (by omega)]
theorem open_any (n : Nat) (A : Option Addr) (c : Nat) (b : List UInt8) (w : World) (hlen : b.length = n) (hc : n ≤ c) (hx : c ≤ maxLen) (hA : Sl w w.heap.size A b) :
    Calls Tryz.prog 80 #[.slice A n c] w fun e w' => Opened w.heap.size (opened b) e w' ∧ Below w.heap.size w w' := by
  subst hlen
  by_cases h : b.length < 11 ∨ 107 < b.length
  · rw [opened_short h]
    exact (open_long _ c A w h).mono fun e w' hq => ⟨Refused.opened (err := 4) hq.1, hq.2⟩
  · obtain ⟨b0, off, rfl, -, -⟩ := hA (by omega)
    obtain ⟨n, hlen⟩ : ∃ n, b.length = n + 7 + 4 := ⟨b.length - 11, by omega⟩
    unfold opened
    rw [if_neg h]
    by_cases hw : Whole b
    · rw [if_pos hw, hlen]
      simp only [show n + 7 + 4 - 11 = n by omega, show n + 7 + 4 - 10 = n + 1 by omega, show n + 7 + 4 - 8 = n + 3 by omega]
      refine open_whole (n + 7) b0 off c b _ w hlen (by omega) (by omega) (by omega) hx hA hw fun W hW => ?_
      refine (parse_any n (some ⟨b0, off, none⟩) c (b.take (n + 7)) W (by rw [List.length_take]; omega) (by omega) hx (by omega) (hW.take _)).mono ?_
      rintro e w' ⟨ho, hb⟩
      refine ⟨Opened.at ?_, hb⟩
      have e1 : (b.take (n + 7)).take 1 = b.take 1 := by rw [List.take_take, Nat.min_eq_left (by omega)]
      rw [e1, inner (by omega), inner (by omega), inner (by omega)] at ho
      exact ho
    · rw [if_neg hw, hlen]
      exact (open_sum (n + 7) b0 off c b w hlen (by omega) (by omega) (by omega) hx hA hw).mono fun e w' hq => ⟨Refused.opened (err := 5) hq.1, hq.2⟩
end Go.Proofs.YtbfdpibjicjagaaGreatDoor.sel
namespace Go.Proofs.YtbfdpibjicjagaaGreatDoor.sel
open Go.RowKit Go.Lib
open Go.Proofs.YtbfdpibjicjagaaGreatDoor.crc (Turned TurnedAll turn xor_u8)
open Go.Proofs.YtbfdpibjicjagaaGreatDoor.pck (clone_any or_bytes)
def oddOf (X : Nat) : Nat := if X % 2 = 0 then X + 1 else X
theorem oddOf_odd (X : Nat) : oddOf X % 2 = 1 := by unfold oddOf; split <;> omega
theorem oddOf_lt {X : Nat} (h : X < 4294967296) : oddOf X < 4294967296 := by unfold oddOf; split <;> omega
theorem half_step (X k : Nat) : X / 2 ^ k / 2 = X / 2 ^ (k + 1) := by rw [Nat.div_div_eq_div_mul, Nat.pow_succ]
def place (bit : Int) (n : Nat) : Nat := (bit % (8 * (n : Int))).toNat
def maskOf (bits : Int) : Nat := oddOf (bits % 4294967296).toNat
theorem mask_odd (x : Int) : maskOf x % 2 = 1 := oddOf_odd _
theorem mask_lt (x : Int) : maskOf x < 4294967296 := oddOf_lt (by omega)
theorem place_lt (x : Int) {n : Nat} (h : 0 < n) : place x n < 8 * n := by
  unfold place
  have h1 := Int.emod_lt_of_pos x (show (0 : Int) < 8 * (n : Int) by omega)
  have h2 := Int.emod_nonneg x (show (8 * (n : Int)) ≠ 0 by omega)
  omega
theorem place_eq (x : Int) {n : Nat} (h : 0 < n) : (place x n : Int) = x % (8 * (n : Int)) := by
  unfold place
  have h2 := Int.emod_nonneg x (show (8 * (n : Int)) ≠ 0 by omega)
  omega
theorem twice_mod (x : Int) {N : Int} (h : 0 < N) : (x.tmod N + N) % N = x % N ∧ 0 ≤ x.tmod N + N ∧ x.tmod N < N := by
  refine ⟨?_, ?_, Int.tmod_lt_of_pos x h⟩
  · rw [Int.add_emod_right]
    have := Int.mul_tdiv_add_tmod x N
    conv => rhs; rw [← this, Int.add_comm, Int.add_mul_emod_self_left]
  · have h1 := Int.tmod_lt_of_pos (-x) h
    rw [Int.neg_tmod] at h1
    omega
def FlipAns (base : Nat) (l : List UInt8) (p X : Nat) (e : Ending) (w' : World) : Prop := ∃ out, TurnedAll l out p X ∧ One base out e w'
end Go.Proofs.YtbfdpibjicjagaaGreatDoor.sel
namespace Go.Proofs.YtbfdpibjicjagaaGreatDoor.sel
open Go.RowKit Go.Lib
open Go.Proofs.YtbfdpibjicjagaaGreatDoor.crc (Turned TurnedAll turn xor_u8 sum ref_sum sum_lt)
open Go.Proofs.YtbfdpibjicjagaaGreatDoor.pck (num le le_length ref_put ref_part)
theorem put_form (k m n q : Nat) (A : Option Addr) (c : Nat) (l : List UInt8) (w : World) (hk : k ≤ 8) (hm : m < 4294967296) (hln : l.length = n) (hq : n + k = q) (hl : n ≤ 1048576) (hA : Sl w w.heap.size A l) :
    Calls Tryz.prog 58 #[.slice A n c, .int .i64 m, .int .i64 k] w fun e w' => (∃ X x, e = .returned (.slice X q x) ∧ Lies w' X x (l ++ le k m)) ∧ Below w.heap.size w w' := by
  refine (ref_put k m n A c l w hk hm hln hl hA).mono ?_
  rintro e w' ⟨⟨v, rfl, ho⟩, hb⟩
  obtain ⟨X, x, hv, hx, hxm, hs, -⟩ := ho.form
  have : (l ++ le k m).length = q := by rw [List.length_append, le_length]; omega
  rw [this] at hv
  subst hv
  exact ⟨⟨X, x, rfl, hx, hxm, hs⟩, hb⟩
theorem rpart_form (n : Nat) (A : Option Addr) (c : Nat) (l : List UInt8) (w : World) (hln : l.length = n) (hl : n ≤ 255) (hA : Sl w w.heap.size A l) :
    Calls Tryz.prog 73 #[.slice A n c] w fun e w' => (∃ X x, e = .returned (.slice X (n + 1) x) ∧ Lies w' X x (le 1 n ++ l)) ∧ Below w.heap.size w w' := by
  refine (ref_part n A c l w hln hl hA).mono ?_
  rintro e w' ⟨⟨v, rfl, ho⟩, hb⟩
  obtain ⟨X, x, hv, hx, hxm, hs, -⟩ := ho.form
  have : (le 1 n ++ l).length = n + 1 := by rw [List.length_append, le_length]; omega
  rw [this] at hv
  subst hv
  exact ⟨⟨X, x, rfl, hx, hxm, hs⟩, hb⟩
theorem mod_minus (a N : Int) (w : World) (hN : 0 < N) (hN2 : N ≤ 1099511627776) (h : a.tmod N < 0) :
    Calls Tryz.prog 43 #[.int .i64 a, .int .i64 N] w fun e w' => e = .returned (.int .i64 (a.tmod N + N)) ∧ w = w' := by
  have hn0 : (N == 0) = false := beq_eq_false_iff_ne.2 (by omega)
  have h2 := (twice_mod a hN).2.1
  go_enter Tryz.func43, Tryz.ntmps43
  go_wp2
  go_ret
  exact ⟨rfl, rfl⟩
theorem mod_plus (a N : Int) (w : World) (hN : 0 < N) (hN2 : N ≤ 1099511627776) (h : ¬ a.tmod N < 0) :
    Calls Tryz.prog 43 #[.int .i64 a, .int .i64 N] w fun e w' => e = .returned (.int .i64 (a.tmod N)) ∧ w = w' := by
  have hn0 : (N == 0) = false := beq_eq_false_iff_ne.2 (by omega)
  go_enter Tryz.func43, Tryz.ntmps43
  go_wp2
  go_ret
  exact ⟨rfl, rfl⟩
theorem mod_all (a N : Int) (w : World) (hN : 0 < N) (hN2 : N ≤ 1099511627776) :
    Calls Tryz.prog 43 #[.int .i64 a, .int .i64 N] w fun e w' => e = .returned (.int .i64 (a % N)) ∧ w = w' := by
  obtain ⟨h1, h2, h3⟩ := twice_mod a hN
  by_cases h : a.tmod N < 0
  · have : a % N = a.tmod N + N := by rw [← h1]; exact Int.emod_eq_of_lt h2 (by omega)
    rw [this]
    exact mod_minus a N w hN hN2 h
  · have : a % N = a.tmod N := by
      rw [← h1, Int.add_emod_right]
      exact Int.emod_eq_of_lt (by omega) h3
    rw [this]
    exact mod_plus a N w hN hN2 h
end Go.Proofs.YtbfdpibjicjagaaGreatDoor.sel
namespace Go.Proofs.YtbfdpibjicjagaaGreatDoor.sel
open Go.RowKit Go.Lib
open Go.Proofs.YtbfdpibjicjagaaGreatDoor.crc (Turned TurnedAll turn xor_u8 sum ref_sum sum_lt)
open Go.Proofs.YtbfdpibjicjagaaGreatDoor.pck (num le le_length ref_put ref_part)
theorem ref_flip_any (A : Option Addr) (c B : Nat) (l : List UInt8) (bit msk : Int) (w : World) (hA : Sl w B A l) (h0 : 0 < l.length) (hl : l.length ≤ 1048576) :
    Calls Tryz.prog 24 #[.slice A l.length c, .int .i64 bit, .int .i64 msk] w fun e w' => FlipAns w.heap.size l (place bit l.length) (maskOf msk) e w' ∧ Below w.heap.size w w' := by
  have hn : ((l.length : Int) == 0) = false := beq_eq_false_iff_ne.2 (by omega)
  have hn2 : (l.length == 0) = false := beq_eq_false_iff_ne.2 (by omega)
  have hp := place_lt bit h0
  have cM : ∀ W, Calls Tryz.prog 43 #[.int .i64 bit, .int .i64 (8 * (l.length : Int))] W fun e w' => e = .returned (.int .i64 (place bit l.length : Nat)) ∧ W = w' := fun W => by
    rw [place_eq bit h0]
    exact mod_all bit _ W (by omega) (by omega)
  obtain ⟨X, hX2, hX⟩ : ∃ X : Nat, msk % 4294967296 = X ∧ X < 4294967296 := ⟨(msk % 4294967296).toNat, by omega, by omega⟩
  have cN : ∀ W, Calls Tryz.prog 43 #[.int .i64 msk, .int .i64 4294967296] W fun e w' => e = .returned (.int .i64 X) ∧ W = w' := fun W => by
    rw [← hX2]
    exact mod_all msk _ W (by omega) (by omega)
  have hXl := mask_lt msk
  have hs : ∃ b : Bool, ((X : Int) % 2 == 0) = b ∧ ((maskOf msk : Nat) : Int) = if b then (X : Int) + 1 else (X : Int) := by
    refine ⟨_, rfl, ?_⟩
    unfold maskOf
    rw [hX2, Int.toNat_natCast]
    unfold oddOf
    by_cases h : X % 2 = 0
    · rw [if_pos h, if_pos (by simp; omega)]; rfl
    · rw [if_neg h, if_neg (by simp; omega)]
  clear hX2
  obtain ⟨bb, hbb, hs⟩ := hs
  generalize maskOf msk = Y at *
  generalize place bit l.length = p at *
  cases bb
  all_goals
    simp only [if_true, if_false, Bool.false_eq_true] at hs
    go_enter Tryz.func24, Tryz.ntmps24
    go_wp2_with (first
      | (go_at_call 23
         (with_reducible refine (twin_any _ _ _ _ _ hA hl).mono ?_)
         rintro e w1 ⟨⟨v, rfl, hown⟩, hb1⟩
         obtain ⟨g, c1, hv, hc1, hm1, hg, hgs⟩ := hown.at h0
         subst hv)
      | (go_at_call 43; (with_reducible refine (cM _).mono ?_); rintro e w2 ⟨rfl, rfl⟩)
      | (go_at_call 43; (with_reducible refine (cN _).mono ?_); rintro e w3 ⟨rfl, rfl⟩))
    clear cM cN
    go_loopw [9, 10] (fun x i w' => ∃ (out : List UInt8) (n : Nat), x = .int .i64 ((Y / 2 ^ (n - p) : Nat) : Int) ∧ i = .int .i64 n ∧ p ≤ n ∧ n ≤ 8 * l.length ∧ Own w' w.heap.size 5 (.slice (some ⟨g, 0, none⟩) l.length c1) out ∧ Turned l out p Y n ∧ Below w.heap.size w w') (fun _ i _ => 8 * l.length - (RowKit.intOf i).toNat)
    case atStart => exact ⟨l, p, by rw [Nat.sub_self, Nat.pow_zero, Nat.div_one, hs], rfl, Nat.le_refl _, by omega, hown, Turned.start l p Y, hb1⟩
    case round =>
      clear hs hbb hown hb1 hA
      rename_i wr
      obtain ⟨out, n, rfl, rfl, hpn, hn8, hown, hT, hbr⟩ := hrel
      have hlen := hT.1
      generalize hq : Y / 2 ^ (n - p) = q
      have hql : q < 4294967296 := by rw [← hq]; exact Nat.lt_of_le_of_lt (Nat.div_le_self _ _) hXl
      by_cases h1 : 0 < q
      · have i1 : (0 : Int) < (q : Int) := by omega
        by_cases h2 : n < 8 * l.length
        · have i2 : (n : Int) < 8 * (l.length : Int) := by omega
          by_cases h3 : q % 2 = 1
          · have i3 : ((q : Int) % 2 == 1) = true := by simp; omega
            have HT : Hid (Turned l (turn out n) p Y (n + 1)) := hT.odd h2 hpn (by rw [hq]; exact h3)
            have i4 : (n : Int) / 8 < (l.length : Int) := by omega
            have hcell := hown.cell (n / 8) (by omega)
            have hfz := hown.frozen hlen (n / 8)
            have HQ : Hid (Y / 2 ^ (n + 1 - p) = q / 2) := by
              show _ = _
              rw [show n + 1 - p = n - p + 1 by omega, ← half_step, hq]
            unfold by8 at hcell
            clear hT hq
            have hv : bits .xor .u8 ((out[n / 8]'(by omega)).toNat : Int) (2 ^ (n % 8) % 256) = (((out[n / 8]'(by omega)) ^^^ UInt8.ofNat (2 ^ (n % 8))).toNat : Int) := by
              have e := xor_u8 (out[n / 8]'(by omega)) (UInt8.ofNat (2 ^ (n % 8)))
              rw [← e, UInt8.toNat_ofNat']
              congr 1
            have hst := hown.store hlen (n / 8) ((out[n / 8]'(by omega)) ^^^ UInt8.ofNat (2 ^ (n % 8)))
            have ht : out.set (n / 8) ((out[n / 8]'(by omega)) ^^^ UInt8.ofNat (2 ^ (n % 8))) = turn out n := by
              unfold turn
              congr 2
              rw [List.getD_eq_getElem?_getD, List.getElem?_eq_getElem (show n / 8 < out.length by omega)]
              rfl
            rw [ht] at hst
            have hbs := hbr.grown hst.2 hbr.size (fun k hk => by
              simp only [Option.some.injEq] at hk
              omega)
            unfold by8 at hst hbs
            rw [← hv] at hst hbs
            have HV := Lib.hid hst.1
            have HB := Lib.hid hbs
            clear hv hst ht hbs
            go_wp2
            go_roundw
            case rel => exact ⟨turn out n, n + 1, by rw [HQ.out]; rfl, by go_num, by omega, by omega, HV.out, HT.out, HB.out⟩
            case measure => simp [RowKit.intOf]; omega
          · have i3 : ((q : Int) % 2 == 1) = false := by simp; omega
            have HT : Hid (Turned l out p Y (n + 1)) := hT.even (by rw [hq]; exact h3)
            have HQ : Hid (Y / 2 ^ (n + 1 - p) = q / 2) := by
              show _ = _
              rw [show n + 1 - p = n - p + 1 by omega, ← half_step, hq]
            clear hT hq
            go_wp2
            go_roundw
            case rel => exact ⟨out, n + 1, by rw [HQ.out]; rfl, by go_num, by omega, by omega, hown, HT.out, hbr⟩
            case measure => simp [RowKit.intOf]; omega
        · have i2 : ¬ (n : Int) < 8 * (l.length : Int) := by omega
          have HT : Hid (TurnedAll l out p Y) := hT.all hpn (Or.inr (by omega))
          clear hT hq
          go_wp2
          go_ret
          exact ⟨⟨out, HT.out, _, rfl, hown⟩, hbr⟩
      · have i1 : ¬ (0 : Int) < (q : Int) := by omega
        have HT : Hid (TurnedAll l out p Y) := hT.all hpn (Or.inl (by omega))
        clear hT hq
        go_wp2
        go_ret
        exact ⟨⟨out, HT.out, _, rfl, hown⟩, hbr⟩
theorem ref_flip_none (A : Option Addr) (c B : Nat) (bit msk : Int) (w : World) :
    Calls Tryz.prog 24 #[.slice A (0 : Nat) c, .int .i64 bit, .int .i64 msk] w fun e w' => One w.heap.size [] e w' ∧ Below w.heap.size w w' := by
  have cC : Calls Tryz.prog 23 #[.slice A (0 : Nat) c] w fun e w' => One w.heap.size [] e w' ∧ Below w.heap.size w w' := twin_any A c B [] w (Sl.nil _ _ _) (by simp)
  go_enter Tryz.func24, Tryz.ntmps24
  go_wp2_with (first
    | (go_at_call 23; (with_reducible refine cC.mono ?_); rintro e w1 ⟨⟨v, rfl, hown⟩, hb1⟩; obtain ⟨X, x, hv, -, -, -, -⟩ := hown.form; rw [List.length_nil] at hv; subst hv))
  go_ret
  exact ⟨⟨_, rfl, hown⟩, hb1⟩
theorem ref_flip_all (A : Option Addr) (c B n : Nat) (l : List UInt8) (bit msk : Int) (w : World) (hln : l.length = n) (hA : Sl w B A l) (hl : n ≤ 1048576) :
    Calls Tryz.prog 24 #[.slice A n c, .int .i64 bit, .int .i64 msk] w fun e w' => FlipAns w.heap.size l (place bit n) (maskOf msk) e w' ∧ Below w.heap.size w w' := by
  subst hln
  by_cases h0 : 0 < l.length
  · exact ref_flip_any A c B l bit msk w hA h0 hl
  · obtain rfl : l = [] := List.eq_nil_of_length_eq_zero (by omega)
    refine (ref_flip_none A c B bit msk w).mono ?_
    rintro e w' ⟨ho, hb⟩
    exact ⟨⟨[], turned_nil _ _, ho⟩, hb⟩
end Go.Proofs.YtbfdpibjicjagaaGreatDoor.sel
namespace Go.Proofs.YtbfdpibjicjagaaGreatDoor.sel
open Go.RowKit Go.Lib
open Go.Proofs.YtbfdpibjicjagaaGreatDoor.crc (sum ref_sum sum_lt)
open Go.Proofs.YtbfdpibjicjagaaGreatDoor.pck (num)
end Go.Proofs.YtbfdpibjicjagaaGreatDoor.sel
