/-
  A log's record as plain data: right images, right records, their bytes, what bytes say. Plain mathematics; no condition beyond each theorem's own.
-/
import Derived.Test.YtpcadoekhoediaaGreatDoorGTa
namespace Go.Proofs.YtpcadoekhoediaaGreatDoor.lrc
open Go.RowKit Go.Lib
open Go.Proofs.YtpcadoekhoediaaGreatDoor.pck (le num le_length num_le num_one)

/-- A record: its kind, number, epoch, place, how many; its image's zone, what, bytes. -/
structure Rcd where
  kd : Int
  sq : Int
  ep : Int
  ps : Int
  nm : Int
  z : Int
  wh : Int
  l : List UInt8
theorem Rcd.eq_of {r q : Rcd} (h0 : r.kd = q.kd) (h1 : r.sq = q.sq) (h2 : r.ep = q.ep) (h3 : r.ps = q.ps) (h4 : r.nm = q.nm) (h5 : r.z = q.z) (h6 : r.wh = q.wh) (h7 : r.l = q.l) : r = q := by
  cases r
  cases q
  simp only at h0 h1 h2 h3 h4 h5 h6 h7
  subst h0 h1 h2 h3 h4 h5 h6 h7
  rfl
def noRec : Rcd := ⟨0, 0, 0, 0, 0, 0, 0, []⟩
/-- A right image; no image; a right record, of a geometry of z zones of d blocks. -/
def ImOk (z d : Int) (zn wh : Int) (l : List UInt8) : Prop := (0 ≤ zn ∧ zn ≤ z - 1) ∧ ((wh = 255 ∧ tbl.Told d l) ∨ (wh ≠ 255 ∧ (-1 ≤ wh ∧ wh ≤ d - 1) ∧ l.length = 8))
def None8 (r : Rcd) : Prop := r.z = 0 ∧ r.wh = 0 ∧ r.l = []
def Head (r : Rcd) : Prop := (0 ≤ r.sq ∧ r.sq ≤ 4294967295) ∧ (0 ≤ r.ep ∧ r.ep ≤ 4294967295) ∧ (2 ≤ r.nm ∧ r.nm ≤ 30)
def RecOk (z d : Int) (r : Rcd) : Prop :=
  (r.kd = 0 ∧ r.sq = 0 ∧ r.ep = 0 ∧ r.ps = 0 ∧ r.nm = 0 ∧ None8 r) ∨ (Head r ∧ r.kd = 2 ∧ r.ps = r.nm - 1 ∧ None8 r) ∨ (Head r ∧ r.kd = 1 ∧ (0 ≤ r.ps ∧ r.ps ≤ r.nm - 2) ∧ ImOk z d r.z r.wh r.l)
def whB (wh : Int) : Nat := if wh = -1 then 254 else wh.toNat
def whI (n : Nat) : Int := if n = 254 then -1 else n
def headB (r : Rcd) : List UInt8 := le 1 r.kd.toNat ++ (le 4 r.sq.toNat ++ (le 4 r.ep.toNat ++ (le 1 r.ps.toNat ++ le 1 r.nm.toNat)))
def imgB (r : Rcd) : List UInt8 := le 1 r.z.toNat ++ (le 1 (whB r.wh) ++ (le 1 r.l.length ++ r.l))
def encR (r : Rcd) : List UInt8 := headB r ++ (if r.kd = 1 then imgB r else [])
def at1 (b : List UInt8) (k : Nat) : Nat := num ((b.drop k).take 1)
def at4 (b : List UInt8) (k : Nat) : Nat := num ((b.drop k).take 4)
/-- What bytes say. -/
def recN (b : List UInt8) : Rcd := if at1 b 0 = 1 then ⟨at1 b 0, at4 b 1, at4 b 5, at1 b 9, at1 b 10, at1 b 11, whI (at1 b 12), b.drop 14⟩ else ⟨at1 b 0, at4 b 1, at4 b 5, at1 b 9, at1 b 10, 0, 0, []⟩
def LenOk (b : List UInt8) : Prop := 11 ≤ b.length ∧ ((at1 b 0 = 1 ∧ 14 ≤ b.length ∧ b.length = 14 + at1 b 13) ∨ (at1 b 0 ≠ 1 ∧ b.length = 11))
def RdOk (z d : Int) (b : List UInt8) : Prop := LenOk b ∧ RecOk z d (recN b)
theorem headB_length (r : Rcd) : (headB r).length = 11 := by unfold headB; simp [le_length]
theorem imgB_length (r : Rcd) : (imgB r).length = 3 + r.l.length := by unfold imgB; simp [le_length]; omega
theorem encR_length (r : Rcd) : (encR r).length = if r.kd = 1 then 14 + r.l.length else 11 := by
  unfold encR
  split
  · rw [List.length_append, headB_length, imgB_length]; omega
  · simp [headB_length]
/-- Pieces of bytes. -/
theorem piece {a m c : List UInt8} {k n : Nat} (ha : a.length = k) (hm : m.length = n) : ((a ++ (m ++ c)).drop k).take n = m := by
  subst ha hm
  rw [List.drop_left, List.take_left]
theorem at1_of {a c : List UInt8} {k n : Nat} (ha : a.length = k) (hn : n < 256) : at1 (a ++ (le 1 n ++ c)) k = n := by
  unfold at1
  rw [piece ha (le_length 1 n), num_le 1 n (by omega)]
theorem at4_of {a c : List UInt8} {k n : Nat} (ha : a.length = k) (hn : n < 4294967296) : at4 (a ++ (le 4 n ++ c)) k = n := by
  unfold at4
  rw [piece ha (le_length 4 n), num_le 4 n (by omega)]
section
variable {r : Rcd} (X : List UInt8)
theorem h_eq : headB r ++ X = [] ++ (le 1 r.kd.toNat ++ (le 4 r.sq.toNat ++ (le 4 r.ep.toNat ++ (le 1 r.ps.toNat ++ (le 1 r.nm.toNat ++ X))))) := by unfold headB; simp
theorem at_kd (h : r.kd.toNat < 256) : at1 (headB r ++ X) 0 = r.kd.toNat := by rw [h_eq]; exact at1_of rfl h
theorem at_sq (h : r.sq.toNat < 4294967296) : at4 (headB r ++ X) 1 = r.sq.toNat := by
  rw [show headB r ++ X = (le 1 r.kd.toNat) ++ (le 4 r.sq.toNat ++ (le 4 r.ep.toNat ++ (le 1 r.ps.toNat ++ (le 1 r.nm.toNat ++ X)))) by unfold headB; simp]
  exact at4_of (by simp [le_length]) h
theorem at_ep (h : r.ep.toNat < 4294967296) : at4 (headB r ++ X) 5 = r.ep.toNat := by
  rw [show headB r ++ X = (le 1 r.kd.toNat ++ le 4 r.sq.toNat) ++ (le 4 r.ep.toNat ++ (le 1 r.ps.toNat ++ (le 1 r.nm.toNat ++ X))) by unfold headB; simp]
  exact at4_of (by simp [le_length]) h
theorem at_ps (h : r.ps.toNat < 256) : at1 (headB r ++ X) 9 = r.ps.toNat := by
  rw [show headB r ++ X = (le 1 r.kd.toNat ++ (le 4 r.sq.toNat ++ le 4 r.ep.toNat)) ++ (le 1 r.ps.toNat ++ (le 1 r.nm.toNat ++ X)) by unfold headB; simp]
  exact at1_of (by simp [le_length]) h
theorem at_nm (h : r.nm.toNat < 256) : at1 (headB r ++ X) 10 = r.nm.toNat := by
  rw [show headB r ++ X = (le 1 r.kd.toNat ++ (le 4 r.sq.toNat ++ (le 4 r.ep.toNat ++ le 1 r.ps.toNat))) ++ (le 1 r.nm.toNat ++ X) by unfold headB; simp]
  exact at1_of (by simp [le_length]) h
theorem at_z (h : r.z.toNat < 256) : at1 (headB r ++ imgB r) 11 = r.z.toNat := at1_of (headB_length r) h
theorem at_wh (h : whB r.wh < 256) : at1 (headB r ++ imgB r) 12 = whB r.wh := by
  rw [show headB r ++ imgB r = (headB r ++ le 1 r.z.toNat) ++ (le 1 (whB r.wh) ++ (le 1 r.l.length ++ r.l)) by unfold imgB; simp]
  exact at1_of (by simp [le_length, headB_length]) h
theorem at_len (h : r.l.length < 256) : at1 (headB r ++ imgB r) 13 = r.l.length := by
  rw [show headB r ++ imgB r = (headB r ++ (le 1 r.z.toNat ++ le 1 (whB r.wh))) ++ (le 1 r.l.length ++ r.l) by unfold imgB; simp]
  exact at1_of (by simp [le_length, headB_length]) h
theorem at_l : (headB r ++ imgB r).drop 14 = r.l := by
  rw [show headB r ++ imgB r = (headB r ++ (le 1 r.z.toNat ++ (le 1 (whB r.wh) ++ le 1 r.l.length))) ++ r.l by unfold imgB; simp]
  exact List.drop_left' (by simp [le_length, headB_length])
end
theorem whI_whB {wh d : Int} (hd : d ≤ 4) (h : wh = 255 ∨ (-1 ≤ wh ∧ wh ≤ d - 1)) : whI (whB wh) = wh ∧ whB wh < 256 := by
  unfold whI whB
  by_cases h1 : wh = -1
  · rw [if_pos h1, if_pos rfl]
    exact ⟨h1.symm, by decide⟩
  · rw [if_neg h1, if_neg (by omega)]
    omega
/-- A right image's bytes are few. -/
theorem imOk_len {z d zn wh : Int} {l : List UInt8} (h : ImOk z d zn wh l) (hd : 1 ≤ d ∧ d ≤ 4) : l.length ≤ 45 ∧ 8 ≤ l.length := by
  rcases h.2 with ⟨-, h2⟩ | ⟨-, -, h2⟩
  · have := h2.1; omega
  · omega
theorem imOk_wh {z d zn wh : Int} {l : List UInt8} (h : ImOk z d zn wh l) : wh = 255 ∨ (-1 ≤ wh ∧ wh ≤ d - 1) := by
  rcases h.2 with ⟨h1, -⟩ | ⟨-, h1, -⟩
  · exact .inl h1
  · exact .inr h1
theorem recOk_len {z d : Int} {r : Rcd} (h : RecOk z d r) (hd : 1 ≤ d ∧ d ≤ 4) : r.l.length ≤ 45 ∧ (r.kd ≠ 1 → r.l = []) := by
  rcases h with ⟨h0, -, -, -, -, -, -, h3⟩ | ⟨-, h0, -, -, -, h3⟩ | ⟨-, h0, -, h3⟩
  · rw [h3]; exact ⟨by decide, fun _ => rfl⟩
  · rw [h3]; exact ⟨by decide, fun _ => rfl⟩
  · exact ⟨(imOk_len h3 hd).1, fun k => absurd h0 k⟩
theorem encR_short {z d : Int} {r : Rcd} (h : RecOk z d r) (hd : 1 ≤ d ∧ d ≤ 4) : 11 ≤ (encR r).length ∧ (encR r).length ≤ 59 := by
  have := (recOk_len h hd).1
  rw [encR_length]
  split <;> omega
/-- What is written is read. -/
theorem recN_of {z d : Int} {r : Rcd} (h : RecOk z d r) (hz : z ≤ 4) (hd : 1 ≤ d ∧ d ≤ 4) : recN (encR r) = r ∧ LenOk (encR r) := by
  have hl := encR_length r
  rcases h with ⟨h0, h1, h2, h3, h4, h5, h6, h7⟩ | ⟨⟨g1, g2, g3⟩, h0, h1, h5, h6, h7⟩ | ⟨⟨g1, g2, g3⟩, h0, h1, h2⟩
  · have hk : ¬ r.kd = 1 := by omega
    have he : encR r = headB r ++ [] := by unfold encR; rw [if_neg hk]
    rw [if_neg hk] at hl
    have a0 := at_kd (r := r) [] (by omega)
    have a1 := at_sq (r := r) [] (by omega)
    have a2 := at_ep (r := r) [] (by omega)
    have a3 := at_ps (r := r) [] (by omega)
    have a4 := at_nm (r := r) [] (by omega)
    rw [← he] at a0 a1 a2 a3 a4
    refine ⟨?_, by omega, .inr ⟨by omega, hl⟩⟩
    unfold recN
    rw [if_neg (by omega)]
    refine Rcd.eq_of ?_ ?_ ?_ ?_ ?_ h5.symm h6.symm h7.symm <;> simp only <;> omega
  · have hk : ¬ r.kd = 1 := by omega
    have he : encR r = headB r ++ [] := by unfold encR; rw [if_neg hk]
    rw [if_neg hk] at hl
    have a0 := at_kd (r := r) [] (by omega)
    have a1 := at_sq (r := r) [] (by omega)
    have a2 := at_ep (r := r) [] (by omega)
    have a3 := at_ps (r := r) [] (by omega)
    have a4 := at_nm (r := r) [] (by omega)
    rw [← he] at a0 a1 a2 a3 a4
    refine ⟨?_, by omega, .inr ⟨by omega, hl⟩⟩
    unfold recN
    rw [if_neg (by omega)]
    refine Rcd.eq_of ?_ ?_ ?_ ?_ ?_ h5.symm h6.symm h7.symm <;> simp only <;> omega
  · have he : encR r = headB r ++ imgB r := by unfold encR; rw [if_pos h0]
    rw [if_pos h0] at hl
    have hil := imOk_len h2 hd
    have hz0 := h2.1
    obtain ⟨w1, w2⟩ := whI_whB hd.2 (imOk_wh h2)
    have a0 := at_kd (r := r) (imgB r) (by omega)
    have a1 := at_sq (r := r) (imgB r) (by omega)
    have a2 := at_ep (r := r) (imgB r) (by omega)
    have a3 := at_ps (r := r) (imgB r) (by omega)
    have a4 := at_nm (r := r) (imgB r) (by omega)
    have a5 := at_z (r := r) (by omega)
    have a6 := at_wh (r := r) w2
    have a7 := at_len (r := r) (by omega)
    have a8 := at_l (r := r)
    rw [← he] at a0 a1 a2 a3 a4 a5 a6 a7 a8
    refine ⟨?_, by omega, .inl ⟨by omega, by omega, by omega⟩⟩
    unfold recN
    rw [if_pos (by omega)]
    refine Rcd.eq_of ?_ ?_ ?_ ?_ ?_ ?_ ?_ ?_ <;> simp only
    any_goals omega
    all_goals first | rw [a6, w1] | exact a8
theorem rdOk_of {z d : Int} {r : Rcd} (h : RecOk z d r) (hz : z ≤ 4) (hd : 1 ≤ d ∧ d ≤ 4) : RdOk z d (encR r) := by
  obtain ⟨h1, h2⟩ := recN_of h hz hd
  exact ⟨h2, by rw [h1]; exact h⟩
theorem encR_inj {z d z' d' : Int} {r q : Rcd} (h : RecOk z d r) (hz : z ≤ 4) (hd : 1 ≤ d ∧ d ≤ 4) (h' : RecOk z' d' q) (hz' : z' ≤ 4) (hd' : 1 ≤ d' ∧ d' ≤ 4) (he : encR r = encR q) : r = q := by
  rw [← (recN_of h hz hd).1, he, (recN_of h' hz' hd').1]
/-- Of another length they are none. -/
theorem at1_take {b : List UInt8} {k n : Nat} (h : k < n) : at1 (b.take n) k = at1 b k := by
  unfold at1
  rw [List.drop_take, List.take_take]
  congr 2
  omega
theorem at1_append {b c : List UInt8} {k : Nat} (h : k < b.length) : at1 (b ++ c) k = at1 b k := by
  unfold at1
  rw [List.drop_append_of_le_length (by omega), List.take_append_of_le_length (by rw [List.length_drop]; omega)]
theorem cut_none {b : List UInt8} {n : Nat} (h : LenOk b) (hn : n < b.length) : ¬ LenOk (b.take n) := by
  rintro ⟨h1, h2⟩
  rw [List.length_take] at h1 h2
  rw [at1_take (by omega)] at h2
  rcases h.2 with ⟨k1, k2, k3⟩ | ⟨k1, k2⟩ <;> rcases h2 with ⟨g1, g2, g3⟩ | ⟨g1, g2⟩
  · rw [at1_take (by omega)] at g3; omega
  all_goals omega
theorem more_none {b c : List UInt8} (h : LenOk b) (hc : c.length = 1) : ¬ LenOk (b ++ c) := by
  rintro ⟨h1, h2⟩
  have hb := h.1
  rw [List.length_append, hc] at h1 h2
  rw [at1_append (by omega)] at h2
  rcases h.2 with ⟨k1, k2, k3⟩ | ⟨k1, k2⟩ <;> rcases h2 with ⟨g1, g2, g3⟩ | ⟨g1, g2⟩
  · rw [at1_append (by omega)] at g3; omega
  all_goals omega
end Go.Proofs.YtpcadoekhoediaaGreatDoor.lrc
