/-
  Reading a log as plain data: by what each copy of each slot says. Plain mathematics; no condition beyond each theorem's own.
  A right log is read whole, wherever each of its records is said by one copy at least. Plain mathematics; no condition beyond each theorem's own.
  The scan of a right log as a whole; the slots in the order in which they are read. Plain mathematics; no condition beyond each theorem's own.
  What a scan finds is a right log, whatever the copies say. Plain mathematics; no condition beyond each theorem's own.
  With all that is to be written written, a log says the same, and nothing is to be written any more. Plain mathematics; no condition beyond each theorem's own.
  A log that was written as it is to be says the same, and nothing is to be written any more. Plain mathematics; no condition beyond each theorem's own.
  How much is to be written of a right log of which one copy of some slots is spoilt; what stands where. Plain mathematics; no condition beyond each theorem's own.
  Both copies of a log as they were written, as plain data: what they say. Plain mathematics; no condition beyond each theorem's own.
  A log with a hole; one whose last transaction was cut; records of an elder epoch. Plain mathematics; no condition beyond each theorem's own.
  A log whose last transaction was cut while it was written: found whole, or not at all. Plain mathematics; no condition beyond each theorem's own.
  What readings say when some are written over, or spoilt. Plain mathematics; conditions: each theorem's own.
  A log whose last transaction was cut: its readings, written over slot by slot. Plain mathematics; conditions: each theorem's own.
-/
import Derived.Test.YtbfdpibjicjagaaGreatDoorGPp
import Derived.Test.YtbfdpibjicjagaaGreatDoorGRg
import Derived.Test.YtbfdpibjicjagaaGreatDoorGSl
namespace Go.Proofs.YtbfdpibjicjagaaGreatDoor.scn
open Go.RowKit Go.Lib
open Go.Proofs.YtbfdpibjicjagaaGreatDoor.lrc (Rcd noRec RecOk RdOk encR cellN txnR imgR ImsOk ImOk Head)
open Go.Proofs.YtbfdpibjicjagaaGreatDoor.prr (SayOk sayR OneR pickR lookR lookW lookH)
open Go.Proofs.YtbfdpibjicjagaaGreatDoor.rng (Txd TxdOk LogOk)
instance (r : Rcd) (ep last sq at' of left : Int) : Decidable (OneR r ep last sq at' of left) := by unfold OneR; infer_instance
abbrev Rd := Int × List UInt8
noncomputable def sayK (z d : Int) (x : Rd) (addr : Nat) : Option Rcd := by classical exact if SayOk z d x.1 x.2 addr then some (sayR x.2) else none
theorem sayK_some {z d : Int} {x : Rd} {addr : Nat} (h : SayOk z d x.1 x.2 addr) : sayK z d x addr = some (sayR x.2) := by unfold sayK; rw [if_pos h]
theorem sayK_none {z d : Int} {x : Rd} {addr : Nat} (h : ¬ SayOk z d x.1 x.2 addr) : sayK z d x addr = none := by unfold sayK; rw [if_neg h]
def oneK (u : Option Rcd) (ep last sq at' of left : Int) : Bool := match u with
 | some r => decide (OneR r ep last sq at' of left)
 | none => false
def recK (u : Option Rcd) : Rcd := match u with
 | some r => r
 | none => noRec
def lookK (u v : Option Rcd) (ep last sq at' of left : Int) : Rcd × List Int × Int :=
 (lookR (oneK u ep last sq at' of left) (oneK v ep last sq at' of left) (recK u) (recK v), lookW (oneK u ep last sq at' of left) (oneK v ep last sq at' of left), lookH u.isSome v.isSome (oneK u ep last sq at' of left) (oneK v ep last sq at' of left))
structure TSt where
 nm : Int
 ims : List (Int × Int × List UInt8)
 ws : List (Int × List UInt8)
 how : Int
def imgO (r : Rcd) : List (Int × Int × List UInt8) := if r.kd = 1 then [(r.z, r.wh, r.l)] else []
def wrK (l a slot : Int) (r : Rcd) (wants : List Int) : List (Int × List UInt8) := wants.map fun c => (a + c * l + slot, sel.enc (cellN l a c slot) r.sq.toNat (encR r))
def runT (L : Int → Int → Rcd × List Int × Int) (W : Int → Rcd → List Int → List (Int × List UInt8)) : Nat → Int → TSt → TSt
 | 0, _, t => t
 | n + 1, k, t => if t.how = 1 ∧ (k = 0 ∨ k < t.nm) then
   (if (L k t.nm).2.2 = 1 then runT L W n (k + 1) ⟨(L k t.nm).1.nm, t.ims ++ imgO (L k t.nm).1, t.ws ++ W k (L k t.nm).1 (L k t.nm).2.1, 1⟩ else ⟨t.nm, t.ims, t.ws, (L k t.nm).2.2⟩)
  else t
def lookS (K0 K1 : Int → Option Rcd) (l ep last pos sq left k of : Int) : Rcd × List Int × Int := lookK (K0 ((pos + k) % l)) (K1 ((pos + k) % l)) ep last sq k of left
def txnS (K0 K1 : Int → Option Rcd) (l a ep last pos sq left : Int) : TSt :=
 runT (lookS K0 K1 l ep last pos sq left) (fun k r ws => wrK l a ((pos + k) % l) r ws) 31 0 ⟨0, [], [], 1⟩
def finS (last sq : Int) (ls : List Txd) (ws : List (Int × List UInt8)) : List Txd × List (Int × List UInt8) × Int := if sq - 1 < last then ([], [], 12) else (ls, ws, 0)
def runS (K0 K1 : Int → Option Rcd) (l a ep last : Int) : Nat → Int → Int → Int → List Txd → List (Int × List UInt8) → List Txd × List (Int × List UInt8) × Int
 | 0, _, sq, _, ls, ws => finS last sq ls ws
 | n + 1, pos, sq, left, ls, ws => if 0 < left ∧ sq ≤ 4294967295 then
   (if (txnS K0 K1 l a ep last pos sq left).how = 3 then ([], [], 12) else if (txnS K0 K1 l a ep last pos sq left).how = 2 then finS last sq ls ws else
    runS K0 K1 l a ep last n ((pos + (txnS K0 K1 l a ep last pos sq left).nm) % l) (sq + 1) (left - (txnS K0 K1 l a ep last pos sq left).nm) (ls ++ [⟨sq, pos, (txnS K0 K1 l a ep last pos sq left).nm, (txnS K0 K1 l a ep last pos sq left).ims⟩]) (ws ++ (txnS K0 K1 l a ep last pos sq left).ws))
  else finS last sq ls ws
def scanK (K0 K1 : Int → Option Rcd) (l a ep last pos sq : Int) : List Txd × List (Int × List UInt8) × Int := runS K0 K1 l a ep last 31 pos sq l [] []
noncomputable def kOf (z d l a cp : Int) (F : List Rd) (s : Int) : Option Rcd := sayK z d (F.getD s.toNat (0, [])) (cellN l a cp s)
noncomputable def scanN (z d l a ep last pos sq : Int) (F S : List Rd) : List Txd × List (Int × List UInt8) × Int := scanK (kOf z d l a 0 F) (kOf z d l a 1 S) l a ep last pos sq
theorem oneK_of {u : Option Rcd} {ep last sq at' of left : Int} : oneK u ep last sq at' of left = true ↔ ∃ r, u = some r ∧ OneR r ep last sq at' of left := by
 cases u
 ·simp [oneK]
 ·simp [oneK]
theorem lookK_how (u v : Option Rcd) (ep last sq at' of left : Int) : (lookK u v ep last sq at' of left).2.2 = 1 ∨ (lookK u v ep last sq at' of left).2.2 = 2 ∨ (lookK u v ep last sq at' of left).2.2 = 3 := by
 unfold lookK lookH
 dsimp only
 split
 ·exact .inl rfl
 ·split
  ·exact .inr (.inl rfl)
  ·exact .inr (.inr rfl)
theorem lookK_one {u v : Option Rcd} {ep last sq at' of left : Int} (h : (lookK u v ep last sq at' of left).2.2 = 1) :
  OneR (lookK u v ep last sq at' of left).1 ep last sq at' of left ∧ (u = some (lookK u v ep last sq at' of left).1 ∨ v = some (lookK u v ep last sq at' of left).1) := by
 cases hu : oneK u ep last sq at' of left
 ·cases hv : oneK v ep last sq at' of left
  ·simp only [lookK, hu, hv, lookH, Bool.or_self, Bool.false_eq_true, if_false] at h
   split at h <;> cases h
  ·obtain ⟨r, rfl, hr⟩ := oneK_of.1 hv
   have e : (lookK u (some r) ep last sq at' of left).1 = r := by simp [lookK, hu, hv, lookR, recK]
   rw [e]
   exact ⟨hr, .inr rfl⟩
 ·obtain ⟨r, rfl, hr⟩ := oneK_of.1 hu
  have e : (lookK (some r) v ep last sq at' of left).1 = r := by simp [lookK, hu, lookR, recK]
  rw [e]
  exact ⟨hr, .inl rfl⟩
theorem lookK_both {r : Rcd} {ep last sq at' of left : Int} (h : OneR r ep last sq at' of left) : lookK (some r) (some r) ep last sq at' of left = (r, [], 1) := by
 have h1 : oneK (some r) ep last sq at' of left = true := oneK_of.2 ⟨r, rfl, h⟩
 simp [lookK, h1, lookR, lookW, lookH, recK]
theorem lookK_first {r : Rcd} {v : Option Rcd} {ep last sq at' of left : Int} (h : OneR r ep last sq at' of left) (hv : oneK v ep last sq at' of left = false) : lookK (some r) v ep last sq at' of left = (r, [1], 1) := by
 have h1 : oneK (some r) ep last sq at' of left = true := oneK_of.2 ⟨r, rfl, h⟩
 simp [lookK, h1, hv, lookR, lookW, lookH, recK]
theorem lookK_second {r : Rcd} {u : Option Rcd} {ep last sq at' of left : Int} (h : OneR r ep last sq at' of left) (hu : oneK u ep last sq at' of left = false) : lookK u (some r) ep last sq at' of left = (r, [0], 1) := by
 have h1 : oneK (some r) ep last sq at' of left = true := oneK_of.2 ⟨r, rfl, h⟩
 simp [lookK, h1, hu, lookR, lookW, lookH, recK]
theorem lookK_end {u v : Option Rcd} {ep last sq at' of left : Int} (hu : oneK u ep last sq at' of left = false) (hv : oneK v ep last sq at' of left = false) (h : u.isSome = true ∨ v.isSome = true) : (lookK u v ep last sq at' of left).2.2 = 2 := by
 simp only [lookK, hu, hv, lookH, Bool.or_self, Bool.false_eq_true, if_false]
 rw [if_pos (by simpa using h)]
theorem lookK_hole {ep last sq at' of left : Int} : (lookK none none ep last sq at' of left).2.2 = 3 := by simp [lookK, lookH, oneK]
theorem one_nm {r : Rcd} {ep last sq at' of left : Int} (h : OneR r ep last sq at' of left) (hof : of ≠ 0) : r.nm = of := h.2.2.2.1 hof
section
variable {L : Int → Int → Rcd × List Int × Int} {W : Int → Rcd → List Int → List (Int × List UInt8)}
def imsF (R : Nat → Rcd) (k m : Nat) : List (Int × Int × List UInt8) := ((List.range' k m).map fun i : Nat => imgO (R i)).flatten
def wsF (W : Int → Rcd → List Int → List (Int × List UInt8)) (R : Nat → Rcd) (V : Nat → List Int) (k m : Nat) : List (Int × List UInt8) := ((List.range' k m).map fun i : Nat => W (i : Int) (R i) (V i)).flatten
theorem imsF_succ (R : Nat → Rcd) (k m : Nat) : imsF R k (m + 1) = imgO (R k) ++ imsF R (k + 1) m := by simp [imsF, List.range'_succ]
theorem wsF_succ (R : Nat → Rcd) (V : Nat → List Int) (k m : Nat) : wsF W R V k (m + 1) = W (k : Int) (R k) (V k) ++ wsF W R V (k + 1) m := by simp [wsF, List.range'_succ]
theorem runT_walk (m : Nat) (R : Nat → Rcd) (V : Nat → List Int) : ∀ (j n k : Nat) (t : TSt), t.how = 1 → j ≤ n → k + j ≤ m → (k = 0 ∨ t.nm = m) →
  (∀ i, k ≤ i → i < k + j → L (i : Int) (if i = 0 then t.nm else (m : Int)) = (R i, V i, 1)) → (∀ i, k ≤ i → i < k + j → (R i).nm = m) →
  runT L W n (k : Int) t = runT L W (n - j) ((k + j : Nat) : Int) ⟨if j = 0 then t.nm else m, t.ims ++ imsF R k j, t.ws ++ wsF W R V k j, 1⟩ := by
 intro j
 induction j with
 | zero =>
  intro n k t h1 _ _ _ _ _
  simp only [imsF, wsF, List.range'_zero, List.map_nil, List.flatten_nil, List.append_nil, Nat.sub_zero, Nat.add_zero, if_true]
  congr 1
  cases t
  simp only at h1
  subst h1
  rfl
 | succ j ih =>
  intro n k t h1 hn hk ht hL hR
  obtain ⟨n, rfl⟩ : ∃ q, n = q + 1 := ⟨n - 1, by omega⟩
  have e0 : L (k : Int) t.nm = (R k, V k, 1) := by
   have h9 := hL k (Nat.le_refl _) (by omega)
   rcases ht with rfl | ht
   ·simpa using h9
   ·rw [ht]
    by_cases h0 : k = 0
    ·subst h0
     rw [← ht]
     simpa using h9
    ·rwa [if_neg h0] at h9
  have e1 := hR k (Nat.le_refl _) (by omega)
  rw [runT, if_pos ⟨h1, by rcases ht with rfl | ht; exact .inl rfl; right; rw [ht]; omega⟩, e0]
  dsimp only
  rw [if_pos rfl, e1]
  have h9 := ih n (k + 1) ⟨(m : Int), t.ims ++ imgO (R k), t.ws ++ W (k : Int) (R k) (V k), 1⟩ rfl (by omega) (by omega) (.inr rfl) (fun i hi hi2 => by
   have h8 := hL i (by omega) (by omega)
   rw [if_neg (by omega)] at h8
   rw [if_neg (by omega)]
   exact h8) (fun i hi hi2 => hR i (by omega) (by omega))
  rw [show ((k + 1 : Nat) : Int) = (k : Int) + 1 by omega] at h9
  rw [h9, imsF_succ, wsF_succ, show n + 1 - (j + 1) = n - j by omega, show k + 1 + j = k + (j + 1) by omega]
  congr 1
  simp only [List.append_assoc]
  congr 1
  split <;> simp
theorem runT_whole (m : Nat) (R : Nat → Rcd) (V : Nat → List Int) (h2 : 1 ≤ m) (h3 : m ≤ 31) (hL : ∀ i, i < m → L (i : Int) (if i = 0 then 0 else (m : Int)) = (R i, V i, 1)) (hR : ∀ i, i < m → (R i).nm = m) :
  runT L W 31 0 ⟨0, [], [], 1⟩ = ⟨m, imsF R 0 m, wsF W R V 0 m, 1⟩ := by
 have h9 := runT_walk (L := L) (W := W) m R V m 31 0 ⟨0, [], [], 1⟩ rfl h3 (by omega) (.inl rfl) (fun i _ hi => hL i (by omega)) (fun i _ hi => hR i (by omega))
 rw [show ((0 : Nat) : Int) = 0 from rfl] at h9
 rw [h9, if_neg (by omega), Nat.zero_add]
 simp only [List.nil_append]
 rcases Nat.eq_zero_or_pos (31 - m) with h0 | h0
 ·rw [h0]
  rfl
 ·obtain ⟨q, hq⟩ : ∃ q, 31 - m = q + 1 := ⟨31 - m - 1, by omega⟩
  rw [hq, runT, if_neg]
  rintro ⟨-, h | h⟩
  ·omega
  ·dsimp only at h; omega
theorem runT_stops (m j : Nat) (R : Nat → Rcd) (V : Nat → List Int) (h3 : j < 31) (hj : j = 0 ∨ j < m) (hL : ∀ i, i < j → L (i : Int) (if i = 0 then 0 else (m : Int)) = (R i, V i, 1)) (hR : ∀ i, i < j → (R i).nm = m) (hs : (L (j : Int) (if j = 0 then 0 else (m : Int))).2.2 ≠ 1) :
  (runT L W 31 0 ⟨0, [], [], 1⟩).how = (L (j : Int) (if j = 0 then 0 else (m : Int))).2.2 := by
 have h9 := runT_walk (L := L) (W := W) (if j = 0 then 1 else m) R V j 31 0 ⟨0, [], [], 1⟩ rfl (by omega) (by split <;> omega) (.inl rfl) (fun i _ hi => by rw [if_neg (show ¬ j = 0 by omega)]; exact hL i (by omega)) (fun i _ hi => by rw [if_neg (show ¬ j = 0 by omega)]; exact hR i (by omega))
 rw [show ((0 : Nat) : Int) = 0 from rfl] at h9
 rw [h9]
 obtain ⟨q, hq⟩ : ∃ q, 31 - j = q + 1 := ⟨31 - j - 1, by omega⟩
 rw [hq, Nat.zero_add, runT]
 dsimp only
 have e : (if j = 0 then (0 : Int) else (((if j = 0 then 1 else m : Nat)) : Int)) = (if j = 0 then 0 else (m : Int)) := by
  split
  ·rfl
  ·rfl
 rw [e, if_pos ⟨rfl, by
  rcases hj with rfl | hj
  ·exact .inl rfl
  ·by_cases h0 : j = 0
   ·left; omega
   ·right; rw [if_neg h0]; omega⟩, if_neg hs]
end
end Go.Proofs.YtbfdpibjicjagaaGreatDoor.scn
namespace Go.Proofs.YtbfdpibjicjagaaGreatDoor.scn
open Go.RowKit Go.Lib
open Go.Proofs.YtbfdpibjicjagaaGreatDoor.lrc (Rcd noRec RecOk RdOk encR cellN txnR imgR ImsOk ImOk Head NumOk txnR_length)
open Go.Proofs.YtbfdpibjicjagaaGreatDoor.prr (SayOk sayR OneR pickR lookR lookW lookH)
open Go.Proofs.YtbfdpibjicjagaaGreatDoor.rng (Txd TxdOk LogOk offN whoN whoN_some whoN_Q whoQ_any)
theorem txnR_img {sq ep : Int} {ds : List (Int × Int × List UInt8)} {k : Nat} (h : k < ds.length) : (txnR sq ep ds)[k]? = some ⟨1, sq, ep, k, (ds.length : Int) + 1, ds[k].1, ds[k].2.1, ds[k].2.2⟩ := by
 have hx : ds[k]? = some ds[k] := List.getElem?_eq_getElem h
 unfold txnR
 rw [List.getElem?_append_left (by simp; exact h), List.getElem?_map, List.getElem?_range h]
 simp only [Option.map_some, imgR, hx]
theorem txnR_com (sq ep : Int) (ds : List (Int × Int × List UInt8)) : (txnR sq ep ds)[ds.length]? = some ⟨2, sq, ep, ds.length, (ds.length : Int) + 1, 0, 0, []⟩ := by
 unfold txnR
 rw [List.getElem?_append_right (by simp)]
 simp
def recT (ep : Int) (x : Txd) (k : Nat) : Rcd := ((txnR x.sq ep x.ims)[k]?).getD noRec
theorem recT_one {ep ep' last of left : Int} {x : Txd} {k : Nat} (hk : k ≤ x.ims.length) (hep : ep = ep' ∨ (x.sq ≤ last ∧ ep ≤ ep')) (hof : of = 0 ∨ of = (x.ims.length : Int) + 1) (hl : (x.ims.length : Int) + 1 ≤ left) : OneR (recT ep x k) ep' last x.sq k of left := by
 unfold recT
 rcases Nat.lt_or_ge k x.ims.length with h | h
 ·rw [txnR_img h]
  exact ⟨by show (1 : Int) ≠ 0; decide, rfl, rfl, fun q => by show (x.ims.length : Int) + 1 = of; omega, fun q => hl, hep⟩
 ·obtain rfl : k = x.ims.length := by omega
  rw [txnR_com]
  exact ⟨by show (2 : Int) ≠ 0; decide, rfl, rfl, fun q => by show (x.ims.length : Int) + 1 = of; omega, fun q => hl, hep⟩
theorem recT_nm {ep : Int} {x : Txd} {k : Nat} (hk : k ≤ x.ims.length) : (recT ep x k).nm = (x.ims.length : Int) + 1 := by
 unfold recT
 rcases Nat.lt_or_ge k x.ims.length with h | h
 ·rw [txnR_img h]; rfl
 ·obtain rfl : k = x.ims.length := by omega
  rw [txnR_com]; rfl
theorem recT_ok {z d ep : Int} {x : Txd} {k : Nat} (hk : k ≤ x.ims.length) (h1 : 1 ≤ x.ims.length ∧ x.ims.length ≤ 29) (hi : ImsOk z d x.ims) (hs : NumOk x.sq) (he : NumOk ep) : RecOk z d (recT ep x k) := by
 unfold recT
 rcases Nat.lt_or_ge k x.ims.length with h | h
 ·rw [txnR_img h]
  exact .inr (.inr ⟨⟨hs, he, by show (2 : Int) ≤ (x.ims.length : Int) + 1 ∧ (x.ims.length : Int) + 1 ≤ 30; omega⟩, rfl, by show (0 : Int) ≤ (k : Int) ∧ (k : Int) ≤ (x.ims.length : Int) + 1 - 2; omega, hi _ (List.getElem_mem h)⟩)
 ·obtain rfl : k = x.ims.length := by omega
  rw [txnR_com]
  exact .inr (.inl ⟨⟨hs, he, by show (2 : Int) ≤ (x.ims.length : Int) + 1 ∧ (x.ims.length : Int) + 1 ≤ 30; omega⟩, rfl, by show (x.ims.length : Int) = (x.ims.length : Int) + 1 - 1; omega, rfl, rfl, rfl⟩)
theorem imsF_part (ep : Int) (x : Txd) : ∀ (j k : Nat), k + j = x.ims.length → imsF (recT ep x) k (j + 1) = x.ims.drop k := by
 intro j
 induction j with
 | zero =>
  intro k hk
  obtain rfl : k = x.ims.length := by omega
  rw [imsF_succ]
  have e : recT ep x x.ims.length = ⟨2, x.sq, ep, x.ims.length, (x.ims.length : Int) + 1, 0, 0, []⟩ := by unfold recT; rw [txnR_com]; rfl
  rw [e, List.drop_length]
  simp [imgO, imsF]
 | succ j ih =>
  intro k hk
  have h : k < x.ims.length := by omega
  rw [imsF_succ, ih (k + 1) (by omega), List.drop_eq_getElem_cons h]
  have e : recT ep x k = ⟨1, x.sq, ep, k, (x.ims.length : Int) + 1, x.ims[k].1, x.ims[k].2.1, x.ims[k].2.2⟩ := by unfold recT; rw [txnR_img h]; rfl
  rw [e, imgO, if_pos rfl]
  rfl
theorem txn_found {K0 K1 : Int → Option Rcd} {z d l a ep ep' last pos sq left : Int} {x : Txd} (V : Nat → List Int) (hx : TxdOk z d pos sq x) (h30 : x.nm ≤ 30) (hep : ep = ep' ∨ (x.sq ≤ last ∧ ep ≤ ep')) (hl : x.nm ≤ left)
  (hG : ∀ k, k ≤ x.ims.length → ∀ of, OneR (recT ep x k) ep' last x.sq k of left → lookK (K0 ((x.ps + k) % l)) (K1 ((x.ps + k) % l)) ep' last x.sq k of left = (recT ep x k, V k, 1)) :
  txnS K0 K1 l a ep' last x.ps x.sq left = ⟨x.nm, x.ims, wsF (fun k r ws => wrK l a ((x.ps + k) % l) r ws) (recT ep x) V 0 (x.ims.length + 1), 1⟩ := by
 obtain ⟨-, -, -, hn, -, -⟩ := hx
 have h9 := runT_whole (L := lookS K0 K1 l ep' last x.ps x.sq left) (W := fun k r ws => wrK l a ((x.ps + k) % l) r ws) (x.ims.length + 1) (recT ep x) V (by omega) (by omega) (fun i hi => by
  refine hG i (by omega) _ (recT_one (by omega) hep ?_ (by omega))
  split
  ·exact .inl rfl
  ·right; omega) (fun i hi => by rw [recT_nm (by omega)]; omega)
 unfold txnS
 rw [h9, imsF_part ep x x.ims.length 0 (by omega), hn]
 simp
theorem offN_le {z d l : Int} {ts : List Txd} {p s u : Int} (h : LogOk z d l p s u ts) (hu : u ≤ l) : u + offN ts ts.length ≤ l := LogOk.whole ts p s u hu h
theorem runS_log {K0 K1 : Int → Option Rcd} {z d l a ep last : Int} (wsOf : Txd → List (Int × List UInt8)) : ∀ (ts : List Txd) (n : Nat) (pos sq used : Int) (ls : List Txd) (ws : List (Int × List UInt8)), (0 ≤ pos ∧ pos < l) → LogOk z d l pos sq used ts → used ≤ l → ts.length ≤ n →
  (∀ x ∈ ts, ∀ left, x.nm ≤ left → txnS K0 K1 l a ep last x.ps x.sq left = ⟨x.nm, x.ims, wsOf x, 1⟩) →
  runS K0 K1 l a ep last n pos sq (l - used) ls ws = runS K0 K1 l a ep last (n - ts.length) ((pos + offN ts ts.length) % l) (sq + ts.length) (l - (used + offN ts ts.length)) (ls ++ ts) (ws ++ (ts.map wsOf).flatten) := by
 intro ts
 induction ts with
 | nil =>
  intro n pos sq used ls ws hp _ _ _ _
  simp [offN, Int.emod_eq_of_lt hp.1 hp.2]
 | cons x t ih =>
  intro n pos sq used ls ws hp h hu hn hf
  obtain ⟨hx, hux, ht⟩ := h
  obtain ⟨n, rfl⟩ : ∃ q, n = q + 1 := ⟨n - 1, by simp at hn; omega⟩
  obtain ⟨e1, e2, e3, e4, e5, -⟩ := id hx
  have h9 := hf x (by simp) (l - used) (by omega)
  rw [e3, e1] at h9
  rw [runS, if_pos ⟨by omega, e2⟩, h9]
  dsimp only
  rw [if_neg (by decide), if_neg (by decide)]
  have hl : 0 < l := by omega
  have h8 := ih n ((pos + x.nm) % l) (sq + 1) (used + x.nm) (ls ++ [⟨sq, pos, x.nm, x.ims⟩]) (ws ++ wsOf x) ⟨Int.emod_nonneg _ (by omega), Int.emod_lt_of_pos _ hl⟩ ht (by omega) (by simp at hn; omega) (fun y hy => hf y (by simp [hy]))
  have ex : (⟨sq, pos, x.nm, x.ims⟩ : Txd) = x := by
   rw [← e1, ← e3]
  rw [show l - used - x.nm = l - (used + x.nm) by omega, h8, ex]
  have eo : offN (x :: t) (x :: t).length = x.nm + offN t t.length := by simp [offN]
  rw [eo, Int.emod_add_emod, show pos + x.nm + offN t t.length = pos + (x.nm + offN t t.length) by omega, show used + x.nm + offN t t.length = used + (x.nm + offN t t.length) by omega]
  simp only [List.length_cons, List.map_cons, List.flatten_cons, List.append_assoc, List.singleton_append]
  rw [show n + 1 - (t.length + 1) = n - t.length by omega, show sq + 1 + (t.length : Int) = sq + ((t.length + 1 : Nat) : Int) by omega]
theorem runS_end {K0 K1 : Int → Option Rcd} {l a ep last : Int} {n : Nat} {pos sq left : Int} {ls : List Txd} {ws : List (Int × List UInt8)} (h : ¬ (0 < left ∧ sq ≤ 4294967295) ∨ (txnS K0 K1 l a ep last pos sq left).how = 2) : runS K0 K1 l a ep last n pos sq left ls ws = finS last sq ls ws := by
 cases n with
 | zero => rfl
 | succ n =>
  rw [runS]
  split
  ·rename_i h1
   rcases h with h | h
   ·exact absurd h1 h
   ·rw [h, if_neg (by decide), if_pos rfl]
  ·rfl
theorem runS_hole {K0 K1 : Int → Option Rcd} {l a ep last : Int} {n : Nat} {pos sq left : Int} {ls : List Txd} {ws : List (Int × List UInt8)} (h0 : 0 < left ∧ sq ≤ 4294967295) (h : (txnS K0 K1 l a ep last pos sq left).how = 3) : runS K0 K1 l a ep last (n + 1) pos sq left ls ws = ([], [], 12) := by
 rw [runS, if_pos h0, if_pos h]
theorem txn_stops {K0 K1 : Int → Option Rcd} {l a ep last pos sq left : Int} (m j : Nat) (R : Nat → Rcd) (V : Nat → List Int) (h3 : j < 31) (hj : j = 0 ∨ j < m)
  (hL : ∀ i, i < j → lookS K0 K1 l ep last pos sq left (i : Int) (if i = 0 then 0 else (m : Int)) = (R i, V i, 1)) (hR : ∀ i, i < j → (R i).nm = m) (hs : (lookS K0 K1 l ep last pos sq left (j : Int) (if j = 0 then 0 else (m : Int))).2.2 ≠ 1) :
  (txnS K0 K1 l a ep last pos sq left).how = (lookS K0 K1 l ep last pos sq left (j : Int) (if j = 0 then 0 else (m : Int))).2.2 := runT_stops m j R V h3 hj hL hR hs
def recAt (l ep : Int) (ts : List Txd) (s : Int) : Rcd := match whoN l s 0 ts with
 | some (i, k) => recT ep (ts.getD i ⟨0, 0, 0, []⟩) k.toNat
 | none => noRec
theorem who_at {z d l pos S : Int} {ts : List Txd} (hl : 0 < l) (hp : 0 ≤ pos ∧ pos < l) (h : LogOk z d l pos S 0 ts) {i : Nat} (hi : i < ts.length) {k : Int} (hk : 0 ≤ k ∧ k < ts[i].nm) : whoN l ((ts[i].ps + k) % l) 0 ts = some (i, k) := by
 obtain ⟨e1, e2, -⟩ := LogOk.place (pos := pos) ts pos S 0 i hi (by rw [Int.add_zero, Int.emod_eq_of_lt hp.1 hp.2]) h
 refine (whoN_some hl hp h _ i k).2 ⟨hi, ?_, hk⟩
 have h0 := rng.offN_nonneg h i
 have e3 : ((ts[i].ps + k) % l - pos) % l = offN ts i + k := by
  rw [e1, Int.emod_add_emod, Int.emod_sub_emod, show pos + 0 + offN ts i + k - pos = offN ts i + k by omega]
  exact Int.emod_eq_of_lt (by omega) (by omega)
 rw [e3]
 omega
theorem recAt_txn {z d l pos S ep : Int} {ts : List Txd} (hl : 0 < l) (hp : 0 ≤ pos ∧ pos < l) (h : LogOk z d l pos S 0 ts) {i : Nat} (hi : i < ts.length) {k : Nat} (hk : (k : Int) < ts[i].nm) : recAt l ep ts ((ts[i].ps + (k : Int)) % l) = recT ep ts[i] k := by
 unfold recAt
 rw [who_at hl hp h hi ⟨by omega, hk⟩]
 dsimp only
 rw [List.getD_eq_getElem?_getD, List.getElem?_eq_getElem hi]
 rfl
theorem recAt_free {z d l pos S ep : Int} {ts : List Txd} (hl : 0 < l) (hp : 0 ≤ pos ∧ pos < l) (h : LogOk z d l pos S 0 ts) (hu : offN ts ts.length < l) : whoN l ((pos + offN ts ts.length) % l) 0 ts = none ∧ recAt l ep ts ((pos + offN ts ts.length) % l) = noRec := by
 have h0 := rng.offN_nonneg h ts.length
 have e3 : offN ts ts.length = ((pos + offN ts ts.length) % l - pos) % l := by
  rw [Int.emod_sub_emod, show pos + offN ts ts.length - pos = offN ts ts.length by omega]
  exact (Int.emod_eq_of_lt h0 hu).symm
 have h1 : whoN l ((pos + offN ts ts.length) % l) 0 ts = none := by
  rw [whoN_Q hl e3 ts 0 pos S 0 (by rw [Int.add_zero, Int.emod_eq_of_lt hp.1 hp.2]) (Int.le_refl 0) h0 h]
  have h8 := rng.whoQ_any (q := offN ts ts.length) ts 0 pos S 0 h0 h
  cases hq : rng.whoQ (offN ts ts.length) 0 0 ts with
  | none => rfl
  | some y =>
   rw [hq] at h8
   have := h8.1 rfl
   omega
 exact ⟨h1, by unfold recAt; rw [h1]⟩
end Go.Proofs.YtbfdpibjicjagaaGreatDoor.scn
namespace Go.Proofs.YtbfdpibjicjagaaGreatDoor.scn
open Go.RowKit Go.Lib
open Go.Proofs.YtbfdpibjicjagaaGreatDoor.lrc (Rcd noRec RecOk RdOk encR cellN txnR imgR ImsOk ImOk Head NumOk)
open Go.Proofs.YtbfdpibjicjagaaGreatDoor.prr (SayOk sayR OneR pickR lookR lookW lookH)
open Go.Proofs.YtbfdpibjicjagaaGreatDoor.rng (Txd TxdOk LogOk offN whoN)
def wsT (l a ep : Int) (V : Int → List Int) (x : Txd) : List (Int × List UInt8) := wsF (fun k r ws => wrK l a ((x.ps + k) % l) r ws) (recT ep x) (fun k => V ((x.ps + (k : Int)) % l)) 0 (x.ims.length + 1)
def wsL (l a ep : Int) (V : Int → List Int) (ts : List Txd) : List (Int × List UInt8) := (ts.map (wsT l a ep V)).flatten
theorem LogOk.nm30 {z d l : Int} (hl : l ≤ 30) : ∀ (ts : List Txd) (p s u : Int), 0 ≤ u → LogOk z d l p s u ts → ∀ x ∈ ts, x.nm ≤ 30 ∧ x.nm = (x.ims.length : Int) + 1 ∧ 1 ≤ x.ims.length ∧ ImsOk z d x.ims ∧ s ≤ x.sq ∧ x.sq ≤ 4294967295 := by
 intro ts
 induction ts with
 | nil => intro p s u _ _ x hx; cases hx
 | cons y t ih =>
  intro p s u hu h x hx
  obtain ⟨⟨e1, e2, e3, e4, e5, e6⟩, h2, h3⟩ := h
  rcases List.mem_cons.1 hx with rfl | hx
  ·exact ⟨by omega, e4, by omega, e6, by omega, by omega⟩
  ·obtain ⟨q1, q2, q3, q4, q5, q6⟩ := ih _ _ _ (by omega) h3 x hx
   exact ⟨q1, q2, q3, q4, by omega, q6⟩
theorem LogOk.txd {z d l : Int} : ∀ (ts : List Txd) (p s u : Int), LogOk z d l p s u ts → ∀ x ∈ ts, TxdOk z d x.ps x.sq x := by
 intro ts
 induction ts with
 | nil => intro p s u _ x hx; cases hx
 | cons y t ih =>
  intro p s u h x hx
  obtain ⟨hy, h2, h3⟩ := h
  rcases List.mem_cons.1 hx with rfl | hx
  ·obtain ⟨e1, e2, e3, e4⟩ := hy
   exact ⟨rfl, by omega, rfl, e4⟩
  ·exact ih _ _ _ h3 x hx
structure Told2 (u v : Option Rcd) (r : Rcd) (V : List Int) : Prop where
 t : ∀ ep last sq at' of left, OneR r ep last sq at' of left → lookK u v ep last sq at' of left = (r, V, 1)
theorem told_both (r : Rcd) : Told2 (some r) (some r) r [] := ⟨fun _ _ _ _ _ _ h => lookK_both h⟩
theorem told_first (r : Rcd) : Told2 (some r) none r [1] := ⟨fun _ _ _ _ _ _ h => lookK_first h rfl⟩
theorem told_second (r : Rcd) : Told2 none (some r) r [0] := ⟨fun _ _ _ _ _ _ h => lookK_second h rfl⟩
theorem one_blank {ep last sq at' of left : Int} : oneK (some noRec) ep last sq at' of left = false := by
 unfold oneK
 exact decide_eq_false fun h => h.1 rfl
theorem told_first' (r : Rcd) : Told2 (some r) (some noRec) r [1] := ⟨fun _ _ _ _ _ _ h => lookK_first h one_blank⟩
theorem told_second' (r : Rcd) : Told2 (some noRec) (some r) r [0] := ⟨fun _ _ _ _ _ _ h => lookK_second h one_blank⟩
theorem scan_pre {K0 K1 : Int → Option Rcd} {z d l a ep ep' last pos sq : Int} {ts : List Txd} (V : Int → List Int) (hl : 14 ≤ l ∧ l ≤ 30) (hp : 0 ≤ pos ∧ pos < l) (h : LogOk z d l pos sq 0 ts)
  (hep : ∀ x ∈ ts, ep = ep' ∨ (x.sq ≤ last ∧ ep ≤ ep'))
  (hK : ∀ x ∈ ts, ∀ k : Nat, k ≤ x.ims.length → Told2 (K0 ((x.ps + (k : Int)) % l)) (K1 ((x.ps + (k : Int)) % l)) (recT ep x k) (V ((x.ps + (k : Int)) % l))) :
  ∃ n, ts.length + n = 31 ∧ 1 ≤ n ∧ scanK K0 K1 l a ep' last pos sq = runS K0 K1 l a ep' last n ((pos + offN ts ts.length) % l) (sq + ts.length) (l - offN ts ts.length) ts (wsL l a ep V ts) := by
 have hlen : ts.length ≤ 15 := by
  have h1 := offN_le h (by omega)
  have h2 : ∀ (ts : List Txd) (p s u : Int), LogOk z d l p s u ts → 2 * (ts.length : Int) ≤ offN ts ts.length := by
   intro ts
   induction ts with
   | nil => intro p s u _; exact Int.le_refl 0
   | cons y t ih =>
    intro p s u h
    have := ih _ _ _ h.2.2
    have e5 := h.1.2.2.2.2.1
    have eo : offN (y :: t) (y :: t).length = y.nm + offN t t.length := by simp [offN]
    rw [eo, List.length_cons]
    omega
  have := h2 ts _ _ _ h
  omega
 refine ⟨31 - ts.length, by omega, by omega, ?_⟩
 have h9 := runS_log (K0 := K0) (K1 := K1) (a := a) (ep := ep') (last := last) (wsT l a ep V) ts 31 pos sq 0 [] [] hp h (by omega) (by omega) (fun x hx left hle => by
  obtain ⟨q1, q2, q3, q4, -, -⟩ := LogOk.nm30 hl.2 ts _ _ _ (Int.le_refl 0) h x hx
  exact txn_found (fun k => V ((x.ps + (k : Int)) % l)) (LogOk.txd ts _ _ _ h x hx) q1 (hep x hx) hle (fun k hk of ho => (hK x hx k hk).t _ _ _ _ _ _ ho))
 unfold scanK
 rw [show l = l - 0 by omega] at h9
 simp only [Int.sub_zero, List.nil_append, Int.zero_add] at h9
 exact h9
theorem scan_log {K0 K1 : Int → Option Rcd} {z d l a ep ep' last pos sq : Int} {ts : List Txd} (V : Int → List Int) (hl : 14 ≤ l ∧ l ≤ 30) (hp : 0 ≤ pos ∧ pos < l) (h : LogOk z d l pos sq 0 ts)
  (hep : ∀ x ∈ ts, ep = ep' ∨ (x.sq ≤ last ∧ ep ≤ ep'))
  (hK : ∀ x ∈ ts, ∀ k : Nat, k ≤ x.ims.length → Told2 (K0 ((x.ps + (k : Int)) % l)) (K1 ((x.ps + (k : Int)) % l)) (recT ep x k) (V ((x.ps + (k : Int)) % l)))
  (he : offN ts ts.length < l → (txnS K0 K1 l a ep' last ((pos + offN ts ts.length) % l) (sq + ts.length) (l - offN ts ts.length)).how = 2) :
  scanK K0 K1 l a ep' last pos sq = finS last (sq + ts.length) ts (wsL l a ep V ts) := by
 obtain ⟨n, -, -, h9⟩ := scan_pre V hl hp h hep hK
 rw [h9]
 refine runS_end ?_
 by_cases hu : offN ts ts.length < l
 ·exact .inr (he hu)
 ·left; omega
theorem txn_none {K0 K1 : Int → Option Rcd} {l a ep last pos sq left : Int} (h : (lookK (K0 (pos % l)) (K1 (pos % l)) ep last sq 0 0 left).2.2 ≠ 1) : (txnS K0 K1 l a ep last pos sq left).how = (lookK (K0 (pos % l)) (K1 (pos % l)) ep last sq 0 0 left).2.2 := by
 have h9 := txn_stops (K0 := K0) (K1 := K1) (l := l) (a := a) (ep := ep) (last := last) (pos := pos) (sq := sq) (left := left) 0 0 (fun _ => noRec) (fun _ => []) (by omega) (.inl rfl) (fun i hi => by omega) (fun i hi => by omega) (by
  show (lookK (K0 ((pos + 0) % l)) (K1 ((pos + 0) % l)) ep last sq 0 0 left).2.2 ≠ 1
  rw [Int.add_zero]
  exact h)
 rw [h9]
 show (lookK (K0 ((pos + 0) % l)) (K1 ((pos + 0) % l)) ep last sq 0 0 left).2.2 = _
 rw [Int.add_zero]
theorem txn_cut {K0 K1 : Int → Option Rcd} {z d l a ep ep' last pos sq left : Int} {x : Txd} (V : Nat → List Int) (j : Nat) (hj : j ≤ x.ims.length) (hx : TxdOk z d pos sq x) (h30 : x.nm ≤ 30) (hep : ep = ep' ∨ (x.sq ≤ last ∧ ep ≤ ep')) (hl : x.nm ≤ left)
  (hG : ∀ k, k < j → Told2 (K0 ((x.ps + (k : Int)) % l)) (K1 ((x.ps + (k : Int)) % l)) (recT ep x k) (V k))
  (h : ∀ of, (lookK (K0 ((x.ps + (j : Int)) % l)) (K1 ((x.ps + (j : Int)) % l)) ep' last x.sq j of left).2.2 ≠ 1) :
  ∃ of, (txnS K0 K1 l a ep' last x.ps x.sq left).how = (lookK (K0 ((x.ps + (j : Int)) % l)) (K1 ((x.ps + (j : Int)) % l)) ep' last x.sq j of left).2.2 := by
 obtain ⟨-, -, -, hn, -, -⟩ := hx
 refine ⟨_, txn_stops (x.ims.length + 1) j (recT ep x) V (by omega) (by omega) (fun i hi => ?_) (fun i hi => by rw [recT_nm (by omega)]; omega) (h _)⟩
 refine (hG i hi).t _ _ _ _ _ _ (recT_one (by omega) hep ?_ (by omega))
 split
 ·exact .inl rfl
 ·right; omega
end Go.Proofs.YtbfdpibjicjagaaGreatDoor.scn
namespace Go.Proofs.YtbfdpibjicjagaaGreatDoor.scn
open Go.RowKit Go.Lib
open Go.Proofs.YtbfdpibjicjagaaGreatDoor.lrc (Rcd noRec RecOk RdOk encR cellN txnR imgR ImsOk ImOk Head NumOk)
open Go.Proofs.YtbfdpibjicjagaaGreatDoor.prr (SayOk sayR OneR pickR lookR lookW lookH)
open Go.Proofs.YtbfdpibjicjagaaGreatDoor.rng (Txd TxdOk LogOk offN)
def KOk (z d : Int) (K : Int → Option Rcd) : Prop := ∀ s r, K s = some r → RecOk z d r
theorem kOf_ok (z d l a cp : Int) (F : List Rd) : KOk z d (kOf z d l a cp F) := fun s r h => by
 unfold kOf sayK at h
 split at h
 ·rename_i h1
  obtain rfl := Option.some.inj h
  exact h1.2.2.2.1.2
 ·cases h
theorem least (P : Nat → Prop) (m : Nat) (h : ¬ ∀ i, i < m → P i) : ∃ j, j < m ∧ ¬ P j ∧ ∀ i, i < j → P i := by
 induction m with
 | zero => exact absurd (fun i hi => absurd hi (by omega)) h
 | succ m ih =>
  by_cases k : ∀ i, i < m → P i
  ·refine ⟨m, by omega, fun q => h fun i hi => ?_, k⟩
   rcases Nat.lt_or_ge i m with g | g
   ·exact k i g
   ·obtain rfl : i = m := by omega
    exact q
  ·obtain ⟨j, h1, h2, h3⟩ := ih k
   exact ⟨j, by omega, h2, h3⟩
theorem look_rec {z d : Int} {K0 K1 : Int → Option Rcd} (h0 : KOk z d K0) (h1 : KOk z d K1) {s ep last sq at' of left : Int} (h : (lookK (K0 s) (K1 s) ep last sq at' of left).2.2 = 1) : RecOk z d (lookK (K0 s) (K1 s) ep last sq at' of left).1 := by
 rcases (lookK_one h).2 with q | q
 ·exact h0 _ _ q
 ·exact h1 _ _ q
theorem txnS_dec {K0 K1 : Int → Option Rcd} {z d l a ep last pos sq left : Int} (h0 : KOk z d K0) (h1 : KOk z d K1) :
  ((txnS K0 K1 l a ep last pos sq left).how = 2 ∨ (txnS K0 K1 l a ep last pos sq left).how = 3) ∧ (∃ (m j : Nat), (j = 0 ∨ j < m ∧ (m : Int) ≤ left) ∧ (∀ i, i < j → (lookS K0 K1 l ep last pos sq left (i : Int) (if i = 0 then 0 else (m : Int))).2.2 = 1 ∧ (lookS K0 K1 l ep last pos sq left (i : Int) (if i = 0 then 0 else (m : Int))).1.nm = m) ∧ j < 31 ∧ (txnS K0 K1 l a ep last pos sq left).how = (lookS K0 K1 l ep last pos sq left (j : Int) (if j = 0 then 0 else (m : Int))).2.2) ∨
  ∃ (m : Nat) (R : Nat → Rcd) (V : Nat → List Int), 2 ≤ m ∧ m ≤ 30 ∧ (m : Int) ≤ left ∧ (∀ i, i < m → lookS K0 K1 l ep last pos sq left (i : Int) (if i = 0 then 0 else (m : Int)) = (R i, V i, 1)) ∧ (∀ i, i < m → (R i).nm = m) ∧
   txnS K0 K1 l a ep last pos sq left = ⟨m, imsF R 0 m, wsF (fun k r ws => wrK l a ((pos + k) % l) r ws) R V 0 m, 1⟩ := by
 have hh : ∀ k of, (lookS K0 K1 l ep last pos sq left k of).2.2 = 1 ∨ (lookS K0 K1 l ep last pos sq left k of).2.2 = 2 ∨ (lookS K0 K1 l ep last pos sq left k of).2.2 = 3 := fun k of => lookK_how _ _ _ _ _ _ _ _
 by_cases hf : (lookS K0 K1 l ep last pos sq left 0 0).2.2 = 1
 case neg =>
  have h9 := txn_stops (K0 := K0) (K1 := K1) (l := l) (a := a) (ep := ep) (last := last) (pos := pos) (sq := sq) (left := left) 0 0 (fun _ => noRec) (fun _ => []) (by omega) (.inl rfl) (fun i hi => by omega) (fun i hi => by omega) hf
  have h8 : (txnS K0 K1 l a ep last pos sq left).how = (lookS K0 K1 l ep last pos sq left 0 0).2.2 := h9
  refine .inl ⟨?_, 0, 0, .inl rfl, fun i hi => by omega, by omega, h9⟩
  rw [h8]
  exact (hh 0 0).resolve_left hf
 have ho := lookK_one (u := K0 ((pos + 0) % l)) (v := K1 ((pos + 0) % l)) hf
 have hr := look_rec h0 h1 (s := (pos + 0) % l) hf
 obtain ⟨m, hm⟩ : ∃ m : Nat, (lookS K0 K1 l ep last pos sq left 0 0).1.nm = m := by
  rcases hr with q | q | q
  ·exact absurd q.1 ho.1.1
  ·exact ⟨_, (Int.toNat_of_nonneg (by have := q.1.2.2.1; exact Int.le_trans (by decide) this)).symm⟩
  ·exact ⟨_, (Int.toNat_of_nonneg (by have := q.1.2.2.1; exact Int.le_trans (by decide) this)).symm⟩
 have hm2 : 2 ≤ m ∧ m ≤ 30 := by
  have hm' : (lookK (K0 ((pos + 0) % l)) (K1 ((pos + 0) % l)) ep last sq 0 0 left).1.nm = m := hm
  rcases hr with q | q | q
  ·exact absurd q.1 ho.1.1
  ·have := q.1.2.2; omega
  ·have := q.1.2.2; omega
 have hml : (m : Int) ≤ left := by
  have := ho.1.2.2.2.2.1 rfl
  have hm' : (lookK (K0 ((pos + 0) % l)) (K1 ((pos + 0) % l)) ep last sq 0 0 left).1.nm = m := hm
  omega
 have hnm : ∀ i, i < m → (lookS K0 K1 l ep last pos sq left (i : Int) (if i = 0 then 0 else (m : Int))).2.2 = 1 → (lookS K0 K1 l ep last pos sq left (i : Int) (if i = 0 then 0 else (m : Int))).1.nm = m := fun i hi h => by
  by_cases hi0 : i = 0
  ·subst hi0
   exact hm
  ·have h7 := (lookK_one h).1
   rw [if_neg hi0] at h7 h ⊢
   exact one_nm h7 (by omega)
 by_cases ha : ∀ i, i < m → (lookS K0 K1 l ep last pos sq left (i : Int) (if i = 0 then 0 else (m : Int))).2.2 = 1
 ·have hL : ∀ i, i < m → lookS K0 K1 l ep last pos sq left (i : Int) (if i = 0 then 0 else (m : Int)) = ((lookS K0 K1 l ep last pos sq left (i : Int) (if i = 0 then 0 else (m : Int))).1, (lookS K0 K1 l ep last pos sq left (i : Int) (if i = 0 then 0 else (m : Int))).2.1, 1) := fun i hi => by
   have h3 := ha i hi
   generalize lookS K0 K1 l ep last pos sq left (i : Int) (if i = 0 then 0 else (m : Int)) = q at *
   obtain ⟨q1, q2, q3⟩ := q
   simp only at h3
   rw [h3]
  exact .inr ⟨m, fun i => (lookS K0 K1 l ep last pos sq left (i : Int) (if i = 0 then 0 else (m : Int))).1, fun i => (lookS K0 K1 l ep last pos sq left (i : Int) (if i = 0 then 0 else (m : Int))).2.1, hm2.1, hm2.2, hml, hL, fun i hi => hnm i hi (ha i hi),
   runT_whole m _ _ (by omega) (by omega) hL fun i hi => hnm i hi (ha i hi)⟩
 ·obtain ⟨j, hj, hjn, hji⟩ := least _ m ha
  have h9 := txn_stops (K0 := K0) (K1 := K1) (l := l) (a := a) (ep := ep) (last := last) (pos := pos) (sq := sq) (left := left) m j (fun i => (lookS K0 K1 l ep last pos sq left (i : Int) (if i = 0 then 0 else (m : Int))).1) (fun i => (lookS K0 K1 l ep last pos sq left (i : Int) (if i = 0 then 0 else (m : Int))).2.1) (by omega) (.inr hj) (fun i hi => by
   have h3 := hji i hi
   generalize lookS K0 K1 l ep last pos sq left (i : Int) (if i = 0 then 0 else (m : Int)) = q at *
   obtain ⟨q1, q2, q3⟩ := q
   simp only at h3
   rw [h3]) (fun i hi => hnm i (by omega) (hji i hi)) hjn
  refine .inl ⟨?_, m, j, .inr ⟨hj, hml⟩, fun i hi => ⟨hji i hi, hnm i (by omega) (hji i hi)⟩, by omega, h9⟩
  rw [h9]
  exact (hh _ _).resolve_left hjn
theorem found_kd {z d : Int} {K0 K1 : Int → Option Rcd} (h0 : KOk z d K0) (h1 : KOk z d K1) {l ep last pos sq left : Int} {m : Nat} {R : Nat → Rcd} {V : Nat → List Int} (hL : ∀ i, i < m → lookS K0 K1 l ep last pos sq left (i : Int) (if i = 0 then 0 else (m : Int)) = (R i, V i, 1)) (hR : ∀ i, i < m → (R i).nm = m) (i : Nat) (hi : i < m) :
  RecOk z d (R i) ∧ OneR (R i) ep last sq i (if i = 0 then 0 else (m : Int)) left ∧ ((i + 1 < m → (R i).kd = 1 ∧ ImOk z d (R i).z (R i).wh (R i).l) ∧ (i + 1 = m → (R i).kd = 2)) := by
 have e := hL i hi
 have e1 : (lookK (K0 ((pos + (i : Int)) % l)) (K1 ((pos + (i : Int)) % l)) ep last sq i (if i = 0 then 0 else (m : Int)) left) = (R i, V i, 1) := e
 have h2 : (lookK (K0 ((pos + (i : Int)) % l)) (K1 ((pos + (i : Int)) % l)) ep last sq i (if i = 0 then 0 else (m : Int)) left).2.2 = 1 := by rw [e1]
 have ho := (lookK_one h2).1
 have hr := look_rec h0 h1 (s := (pos + (i : Int)) % l) h2
 rw [e1] at ho hr
 have hps : (R i).ps = i := ho.2.2.1
 have hn := hR i hi
 refine ⟨hr, ho, fun hlt => ?_, fun heq => ?_⟩
 ·rcases hr with q | q | q
  ·exact absurd q.1 ho.1
  ·have := q.2.2.1
   rw [show ((R i, V i, (1 : Int)).1) = R i from rfl] at this
   omega
  ·exact ⟨q.2.1, q.2.2.2⟩
 ·rcases hr with q | q | q
  ·exact absurd q.1 ho.1
  ·exact q.2.1
  ·have := q.2.2.1
   rw [show ((R i, V i, (1 : Int)).1) = R i from rfl] at this
   omega
theorem imsF_len {R : Nat → Rcd} {m : Nat} : ∀ (j k : Nat), k + j = m → 1 ≤ j → (∀ i, i + 1 < m → (R i).kd = 1) → (∀ i, i + 1 = m → (R i).kd = 2) → (imsF R k j).length = j - 1 ∧ ∀ y ∈ imsF R k j, ∃ i, i + 1 < m ∧ y = ((R i).z, (R i).wh, (R i).l) := by
 intro j
 induction j with
 | zero => intro k _ h; omega
 | succ j ih =>
  intro k hk _ h1 h2
  rw [imsF_succ]
  rcases Nat.eq_zero_or_pos j with rfl | hj
  ·have e : imgO (R k) = [] := by unfold imgO; rw [h2 k (by omega)]; rfl
   rw [e]
   exact ⟨rfl, fun y hy => by cases hy⟩
  ·have e : imgO (R k) = [((R k).z, (R k).wh, (R k).l)] := by unfold imgO; rw [h1 k (by omega)]; rfl
   obtain ⟨q1, q2⟩ := ih (k + 1) (by omega) hj h1 h2
   rw [e]
   refine ⟨by rw [List.length_append, q1]; simp; omega, fun y hy => ?_⟩
   rcases List.mem_append.1 hy with hy | hy
   ·obtain rfl := List.mem_singleton.1 hy
    exact ⟨k, by omega, rfl⟩
   ·exact q2 y hy
theorem found_txd {z d : Int} {K0 K1 : Int → Option Rcd} (h0 : KOk z d K0) (h1 : KOk z d K1) {l ep last pos sq left : Int} {m : Nat} {R : Nat → Rcd} {V : Nat → List Int} (hm : 2 ≤ m) (hs : sq ≤ 4294967295) (hL : ∀ i, i < m → lookS K0 K1 l ep last pos sq left (i : Int) (if i = 0 then 0 else (m : Int)) = (R i, V i, 1)) (hR : ∀ i, i < m → (R i).nm = m) : TxdOk z d pos sq ⟨sq, pos, m, imsF R 0 m⟩ := by
 obtain ⟨q1, q2⟩ := imsF_len (R := R) (m := m) m 0 (by omega) (by omega) (fun i hi => ((found_kd h0 h1 hL hR i (by omega)).2.2.1 hi).1) (fun i hi => (found_kd h0 h1 hL hR i (by omega)).2.2.2 hi)
 refine ⟨rfl, hs, rfl, by show (m : Int) = ((imsF R 0 m).length : Int) + 1; omega, by show (2 : Int) ≤ m; omega, fun y hy => ?_⟩
 obtain ⟨i, hi, rfl⟩ := q2 y hy
 exact ((found_kd h0 h1 hL hR i (by omega)).2.2.1 hi).2
theorem runS_right {K0 K1 : Int → Option Rcd} {z d l a ep last : Int} (h0 : KOk z d K0) (h1 : KOk z d K1) : ∀ (n : Nat) (pos sq left : Int) (ls : List Txd) (ws : List (Int × List UInt8)),
  (∃ t w, runS K0 K1 l a ep last n pos sq left ls ws = (ls ++ t, ws ++ w, 0) ∧ LogOk z d l pos sq (l - left) t ∧ last ≤ sq + t.length - 1) ∨ runS K0 K1 l a ep last n pos sq left ls ws = ([], [], 12) := by
 have hfin : ∀ pos sq left ls ws, (∃ t w, finS last sq ls ws = (ls ++ t, ws ++ w, 0) ∧ LogOk z d l pos sq (l - left) t ∧ last ≤ sq + t.length - 1) ∨ finS last sq ls ws = ([], [], 12) := fun pos sq left ls ws => by
  unfold finS
  split
  ·exact .inr rfl
  ·exact .inl ⟨[], [], by simp, trivial, by simp; omega⟩
 intro n
 induction n with
 | zero => intro pos sq left ls ws; exact hfin pos sq left ls ws
 | succ n ih =>
  intro pos sq left ls ws
  rw [runS]
  split
  case isFalse => exact hfin pos sq left ls ws
  rename_i hg
  rcases txnS_dec (l := l) (a := a) (ep := ep) (last := last) (pos := pos) (sq := sq) (left := left) h0 h1 with ⟨h, -⟩ | ⟨m, R, V, hm, hm30, hml, hL, hR, hT⟩
  ·rcases h with h | h
   ·rw [h, if_neg (by decide), if_pos rfl]
    exact hfin pos sq left ls ws
   ·rw [h, if_pos rfl]
    exact .inr rfl
  ·rw [hT]
   dsimp only
   rw [if_neg (by decide), if_neg (by decide)]
   have hx := found_txd h0 h1 hm hg.2 hL hR
   rcases ih ((pos + (m : Int)) % l) (sq + 1) (left - m) (ls ++ [⟨sq, pos, m, imsF R 0 m⟩]) (ws ++ wsF (fun k r ws => wrK l a ((pos + k) % l) r ws) R V 0 m) with ⟨t, w, e, hlog, hlast⟩ | e
   ·refine .inl ⟨⟨sq, pos, m, imsF R 0 m⟩ :: t, wsF (fun k r ws => wrK l a ((pos + k) % l) r ws) R V 0 m ++ w, by rw [e]; simp, ⟨hx, by show l - left + (m : Int) ≤ l; omega, ?_⟩, by rw [List.length_cons]; omega⟩
    show LogOk z d l ((pos + (m : Int)) % l) (sq + 1) (l - left + m) t
    rw [show l - left + (m : Int) = l - (left - m) by omega]
    exact hlog
   ·exact .inr e
theorem scan_right {z d l a ep last pos sq : Int} (F S : List Rd) :
  (∃ t w, scanN z d l a ep last pos sq F S = (t, w, 0) ∧ LogOk z d l pos sq 0 t ∧ last ≤ sq + t.length - 1) ∨ scanN z d l a ep last pos sq F S = ([], [], 12) := by
 have h9 := runS_right (l := l) (a := a) (ep := ep) (last := last) (kOf_ok z d l a 0 F) (kOf_ok z d l a 1 S) 31 pos sq l [] []
 simpa [scanN, scanK] using h9
end Go.Proofs.YtbfdpibjicjagaaGreatDoor.scn
namespace Go.Proofs.YtbfdpibjicjagaaGreatDoor.scn
open Go.RowKit Go.Lib
open Go.Proofs.YtbfdpibjicjagaaGreatDoor.gmt (Ok)
open Go.Proofs.YtbfdpibjicjagaaGreatDoor.lrc (Rcd noRec RecOk RdOk encR cellN SlotOk)
open Go.Proofs.YtbfdpibjicjagaaGreatDoor.prr (SayOk sayR OneR pickR lookR lookW lookH say_made cell_lt)
open Go.Proofs.YtbfdpibjicjagaaGreatDoor.rng (Txd TxdOk LogOk offN)
theorem lookW_one (o1 o2 : Bool) : lookW o1 o2 = [] ∨ lookW o1 o2 = [0] ∨ lookW o1 o2 = [1] := by
 cases o1 <;> cases o2 <;> simp [lookW]
theorem slot_inj {l pos : Int} {i j : Nat} (hl : 0 < l) (hi : (i : Int) < l) (hj : (j : Int) < l) (h : (pos + (i : Int)) % l = (pos + (j : Int)) % l) : i = j := by
 have h1 := Int.emod_emod_of_dvd (pos + (i : Int)) (Int.dvd_refl l)
 have h2 : ((pos + (i : Int)) - (pos + (j : Int))) % l = 0 := Int.emod_eq_emod_iff_emod_sub_eq_zero.1 h
 rw [show (pos + (i : Int)) - (pos + (j : Int)) = (i : Int) - j by omega] at h2
 have h3 := Int.dvd_of_emod_eq_zero h2
 obtain ⟨q, hq⟩ := h3
 rcases Int.lt_trichotomy q 0 with k | k | k
 ·have : l * q ≤ l * (-1) := Int.mul_le_mul_of_nonneg_left (by omega) (by omega)
  omega
 ·subst k
  omega
 ·have : l * 1 ≤ l * q := Int.mul_le_mul_of_nonneg_left (by omega) (by omega)
  omega
end Go.Proofs.YtbfdpibjicjagaaGreatDoor.scn
namespace Go.Proofs.YtbfdpibjicjagaaGreatDoor.scn
open Go.RowKit Go.Lib
open Go.Proofs.YtbfdpibjicjagaaGreatDoor.gmt (Ok)
open Go.Proofs.YtbfdpibjicjagaaGreatDoor.lrc (Rcd noRec RecOk RdOk encR cellN SlotOk)
open Go.Proofs.YtbfdpibjicjagaaGreatDoor.prr (SayOk sayR OneR pickR lookR lookW lookH say_made cell_lt)
open Go.Proofs.YtbfdpibjicjagaaGreatDoor.rng (Txd TxdOk LogOk offN)
theorem sayK_made {z d s l a c sl : Int} {r : Rcd} (ho : Ok z d s l a) (h : RecOk z d r) (hs : SlotOk l c sl) : sayK z d (0, sel.enc (cellN l a c sl) r.sq.toNat (encR r)) (cellN l a c sl) = some r := by
 obtain ⟨q1, q2⟩ := say_made (addr := cellN l a c sl) h (by have := ho.1; omega) (by have := ho.2.1; omega) (cell_lt ho hs)
 rw [sayK_some (x := (0, sel.enc (cellN l a c sl) r.sq.toNat (encR r))) q1]
 exact congrArg some q2
end Go.Proofs.YtbfdpibjicjagaaGreatDoor.scn
namespace Go.Proofs.YtbfdpibjicjagaaGreatDoor.scn
open Go.RowKit Go.Lib
open Go.Proofs.YtbfdpibjicjagaaGreatDoor.lrc (Rcd noRec RecOk RdOk encR cellN txnR imgR ImsOk ImOk Head NumOk)
open Go.Proofs.YtbfdpibjicjagaaGreatDoor.rng (Txd TxdOk LogOk offN whoN whoQ_any whoN_Q)
def wantV (sp : Int → Option Int) (s : Int) : List Int := match sp s with
 | some c => [c]
 | none => []
end Go.Proofs.YtbfdpibjicjagaaGreatDoor.scn
namespace Go.Proofs.YtbfdpibjicjagaaGreatDoor.scn
open Go.RowKit Go.Lib
open Go.Proofs.YtbfdpibjicjagaaGreatDoor.gmt (Ok)
open Go.Proofs.YtbfdpibjicjagaaGreatDoor.lrc (Rcd noRec RecOk RdOk encR cellN SlotOk NumOk ImsOk)
open Go.Proofs.YtbfdpibjicjagaaGreatDoor.prr (SayOk sayR OneR pickR lookR lookW lookH say_made cell_lt)
open Go.Proofs.YtbfdpibjicjagaaGreatDoor.rng (Txd TxdOk LogOk offN whoN)
def writB (l a cp ep : Int) (ts : List Txd) (s : Int) : List UInt8 := sel.enc (cellN l a cp s) (recAt l ep ts s).sq.toNat (encR (recAt l ep ts s))
def writF (l a cp ep : Int) (ts : List Txd) : List Rd := (List.range l.toNat).map fun (s : Nat) => (0, writB l a cp ep ts s)
theorem writF_length (l a cp ep : Int) (ts : List Txd) : (writF l a cp ep ts).length = l.toNat := by simp [writF]
theorem writF_get {l a cp ep : Int} {ts : List Txd} {s : Int} (h0 : 0 ≤ s) (h1 : s < l) : (writF l a cp ep ts).getD s.toNat (0, []) = (0, writB l a cp ep ts s) := by
 unfold writF
 rw [List.getD_eq_getElem?_getD, List.getElem?_map, List.getElem?_range (by omega)]
 show ((0 : Int), writB l a cp ep ts ((s.toNat : Nat) : Int)) = _
 rw [show ((s.toNat : Nat) : Int) = s by omega]
theorem noRec_ok (z d : Int) : RecOk z d noRec := .inl ⟨rfl, rfl, rfl, rfl, rfl, rfl, rfl, rfl⟩
theorem recAt_ok {z d l ep pos sq : Int} {ts : List Txd} (hl : 14 ≤ l ∧ l ≤ 30) (hp : 0 ≤ pos ∧ pos < l) (h : LogOk z d l pos sq 0 ts) (hq : 0 ≤ sq) (he : NumOk ep) (s : Int) : RecOk z d (recAt l ep ts s) := by
 unfold recAt
 cases hw : whoN l s 0 ts with
 | none => exact noRec_ok z d
 | some y =>
  obtain ⟨j, k⟩ := y
  dsimp only
  obtain ⟨hj, -, hk0, hk1⟩ := (rng.whoN_some (by omega) hp h s j k).1 hw
  obtain ⟨q1, q2, q3, q4, q5, q6⟩ := LogOk.nm30 hl.2 ts _ _ _ (Int.le_refl 0) h ts[j] (List.getElem_mem hj)
  rw [List.getD_eq_getElem?_getD, List.getElem?_eq_getElem hj]
  exact recT_ok (x := ts[j]) (by omega) (by omega) q4 ⟨by omega, q6⟩ he
theorem say_writ {z d s' l a ep pos sq : Int} {cp s : Int} {ts : List Txd} (ho : Ok z d s' l a) (hp : 0 ≤ pos ∧ pos < l) (h : LogOk z d l pos sq 0 ts) (hq : 0 ≤ sq) (he : NumOk ep) (hc : cp = 0 ∨ cp = 1) (h0 : 0 ≤ s) (h1 : s < l) :
  sayK z d (0, writB l a cp ep ts s) (cellN l a cp s) = some (recAt l ep ts s) := sayK_made ho (recAt_ok ho.2.2.2.1 hp h hq he s) ⟨hc, h0, by omega⟩
theorem kOf_writ {z d s' l a ep pos sq : Int} {cp s : Int} {ts : List Txd} (ho : Ok z d s' l a) (hp : 0 ≤ pos ∧ pos < l) (h : LogOk z d l pos sq 0 ts) (hq : 0 ≤ sq) (he : NumOk ep) (hc : cp = 0 ∨ cp = 1) (h0 : 0 ≤ s) (h1 : s < l) :
  kOf z d l a cp (writF l a cp ep ts) s = some (recAt l ep ts s) := by
 unfold kOf
 rw [writF_get h0 h1]
 exact say_writ ho hp h hq he hc h0 h1
theorem slot_of {l q : Int} (hl : 0 < l) : 0 ≤ q % l ∧ q % l < l := ⟨Int.emod_nonneg _ (by omega), Int.emod_lt_of_pos _ hl⟩
theorem recAt_of {z d l ep pos sq : Int} {ts : List Txd} (hl : 14 ≤ l ∧ l ≤ 30) (hp : 0 ≤ pos ∧ pos < l) (h : LogOk z d l pos sq 0 ts) {x : Txd} (hx : x ∈ ts) {k : Nat} (hk : k ≤ x.ims.length) : recAt l ep ts ((x.ps + (k : Int)) % l) = recT ep x k := by
 obtain ⟨i, hi, rfl⟩ := List.getElem_of_mem hx
 obtain ⟨-, q2, -⟩ := LogOk.nm30 hl.2 ts _ _ _ (Int.le_refl 0) h ts[i] hx
 exact recAt_txn (by omega) hp h hi (by omega)
theorem end_blank {u v : Option Rcd} {ep last sq at' of left : Int} (hu : u = some noRec ∨ u = none) (hv : v = some noRec ∨ v = none) (h : u = some noRec ∨ v = some noRec) : (lookK u v ep last sq at' of left).2.2 = 2 := by
 have h1 : ∀ q : Option Rcd, q = some noRec ∨ q = none → oneK q ep last sq at' of left = false := fun q hq => by
  rcases hq with rfl | rfl
  ·exact one_blank
  ·rfl
 refine lookK_end (h1 u hu) (h1 v hv) ?_
 rcases h with rfl | rfl
 ·exact .inl rfl
 ·exact .inr rfl
theorem scan_finds {K0 K1 : Int → Option Rcd} {z d s' l a ep last pos sq : Int} {ts : List Txd} (sp : Int → Option Int) (ho : Ok z d s' l a) (hp : 0 ≤ pos ∧ pos < l) (h : LogOk z d l pos sq 0 ts)
  (hsp : ∀ s, sp s = none ∨ sp s = some 0 ∨ sp s = some 1)
  (hK : ∀ s, 0 ≤ s → s < l → K0 s = (if sp s = some 0 then none else some (recAt l ep ts s)) ∧ K1 s = (if sp s = some 1 then none else some (recAt l ep ts s))) (hlast : last ≤ sq + ts.length - 1) :
  scanK K0 K1 l a ep last pos sq = (ts, wsL l a ep (wantV sp) ts, 0) := by
 have hl : 14 ≤ l ∧ l ≤ 30 := ho.2.2.2.1
 have h9 := scan_log (K0 := K0) (K1 := K1) (a := a) (ep := ep) (ep' := ep) (last := last) (wantV sp) hl hp h (fun _ _ => .inl rfl) (fun x hx k hk => by
  obtain ⟨q0, q1⟩ := slot_of (l := l) (q := x.ps + (k : Int)) (by omega)
  obtain ⟨k0, k1⟩ := hK _ q0 q1
  rw [k0, k1, recAt_of hl hp h hx hk]
  unfold wantV
  rcases hsp ((x.ps + (k : Int)) % l) with e | e | e <;> rw [e]
  ·exact told_both _
  ·exact told_second _
  ·exact told_first _) (fun hu => by
  obtain ⟨-, e⟩ := recAt_free (ep := ep) (by omega) hp h hu
  obtain ⟨q0, q1⟩ := slot_of (l := l) (q := pos + offN ts ts.length) (by omega)
  obtain ⟨k0, k1⟩ := hK _ q0 q1
  rw [e] at k0 k1
  have h8 : (lookK (K0 ((pos + offN ts ts.length) % l % l)) (K1 ((pos + offN ts ts.length) % l % l)) ep last (sq + ts.length) 0 0 (l - offN ts ts.length)).2.2 = 2 := by
   rw [Int.emod_emod_of_dvd _ (Int.dvd_refl l), k0, k1]
   rcases hsp ((pos + offN ts ts.length) % l) with e | e | e <;> rw [e]
   ·exact end_blank (.inl rfl) (.inl rfl) (.inl rfl)
   ·exact end_blank (.inr rfl) (.inl rfl) (.inr rfl)
   ·exact end_blank (.inl rfl) (.inr rfl) (.inl rfl)
  rw [txn_none (by rw [h8]; decide), h8])
 rw [h9]
 unfold finS
 rw [if_neg (by omega)]
theorem scan_whole {K0 K1 : Int → Option Rcd} {z d s' l a ep last pos sq : Int} {ts : List Txd} (ho : Ok z d s' l a) (hp : 0 ≤ pos ∧ pos < l) (h : LogOk z d l pos sq 0 ts)
  (hK : ∀ s, 0 ≤ s → s < l → K0 s = some (recAt l ep ts s) ∧ K1 s = some (recAt l ep ts s)) : scanK K0 K1 l a ep last pos sq = finS last (sq + ts.length) ts [] := by
 have hl : 14 ≤ l ∧ l ≤ 30 := ho.2.2.2.1
 have h9 := scan_log (K0 := K0) (K1 := K1) (a := a) (ep := ep) (ep' := ep) (last := last) (fun _ => []) hl hp h (fun _ _ => .inl rfl) (fun x hx k hk => by
  obtain ⟨q0, q1⟩ := slot_of (l := l) (q := x.ps + (k : Int)) (by omega)
  obtain ⟨k0, k1⟩ := hK _ q0 q1
  rw [k0, k1, recAt_of hl hp h hx hk]
  exact told_both _) (fun hu => by
  obtain ⟨-, e⟩ := recAt_free (ep := ep) (by omega) hp h hu
  obtain ⟨q0, q1⟩ := slot_of (l := l) (q := pos + offN ts ts.length) (by omega)
  obtain ⟨k0, k1⟩ := hK _ q0 q1
  rw [e] at k0 k1
  have h8 : (lookK (K0 ((pos + offN ts ts.length) % l % l)) (K1 ((pos + offN ts ts.length) % l % l)) ep last (sq + ts.length) 0 0 (l - offN ts ts.length)).2.2 = 2 := by
   rw [Int.emod_emod_of_dvd _ (Int.dvd_refl l), k0, k1]
   exact end_blank (.inl rfl) (.inl rfl) (.inl rfl)
  rw [txn_none (by rw [h8]; decide), h8])
 rw [h9]
 congr 1
 unfold wsL wsT wsF wrK
 simp
end Go.Proofs.YtbfdpibjicjagaaGreatDoor.scn
namespace Go.Proofs.YtbfdpibjicjagaaGreatDoor.scn
open Go.RowKit Go.Lib
open Go.Proofs.YtbfdpibjicjagaaGreatDoor.gmt (Ok)
open Go.Proofs.YtbfdpibjicjagaaGreatDoor.lrc (Rcd noRec RecOk RdOk encR cellN SlotOk NumOk ImsOk)
open Go.Proofs.YtbfdpibjicjagaaGreatDoor.prr (SayOk sayR OneR pickR lookR lookW lookH)
open Go.Proofs.YtbfdpibjicjagaaGreatDoor.rng (Txd TxdOk LogOk offN whoN)
theorem LogOk.take {z d l : Int} : ∀ (ts : List Txd) (p s u : Int) (i : Nat), LogOk z d l p s u ts → LogOk z d l p s u (ts.take i) := by
 intro ts
 induction ts with
 | nil => intro p s u i _; cases i <;> trivial
 | cons x t ih =>
  intro p s u i h
  cases i with
  | zero => trivial
  | succ i => exact ⟨h.1, h.2.1, ih _ _ _ i h.2.2⟩
theorem offN_take : ∀ (ts : List Txd) (i : Nat), i ≤ ts.length → offN (ts.take i) (ts.take i).length = offN ts i := by
 intro ts
 induction ts with
 | nil => intro i _; cases i <;> rfl
 | cons x t ih =>
  intro i hi
  cases i with
  | zero => rfl
  | succ i =>
   have := ih i (by simpa using hi)
   rw [List.take_succ_cons, List.length_cons]
   show x.nm + offN (t.take i) (t.take i).length = x.nm + offN t i
   rw [this]
theorem LogOk.sq_at {z d l : Int} : ∀ (ts : List Txd) (p s u : Int) (i : Nat) (hi : i < ts.length), LogOk z d l p s u ts → ts[i].sq = s + i := by
 intro ts
 induction ts with
 | nil => intro p s u i hi; exact absurd hi (by simp)
 | cons x t ih =>
  intro p s u i hi h
  cases i with
  | zero => have := h.1.1; simpa using this
  | succ i =>
   have := ih _ _ _ i (by simpa using hi) h.2.2
   rw [List.getElem_cons_succ, this]
   omega
theorem scan_upto {K0 K1 : Int → Option Rcd} {z d l a ep ep' last pos sq : Int} {ts : List Txd} (V : Int → List Int) (i : Nat) (hi : i ≤ ts.length) (hl : 14 ≤ l ∧ l ≤ 30) (hp : 0 ≤ pos ∧ pos < l) (h : LogOk z d l pos sq 0 ts)
  (hep : ∀ x ∈ ts.take i, ep = ep' ∨ (x.sq ≤ last ∧ ep ≤ ep'))
  (hK : ∀ x ∈ ts.take i, ∀ k : Nat, k ≤ x.ims.length → Told2 (K0 ((x.ps + (k : Int)) % l)) (K1 ((x.ps + (k : Int)) % l)) (recT ep x k) (V ((x.ps + (k : Int)) % l))) :
  ∃ n, scanK K0 K1 l a ep' last pos sq = runS K0 K1 l a ep' last (n + 1) ((pos + offN ts i) % l) (sq + i) (l - offN ts i) (ts.take i) (wsL l a ep V (ts.take i)) := by
 obtain ⟨n, -, hn1, h9⟩ := scan_pre (a := a) V hl hp (LogOk.take ts _ _ _ i h) hep hK
 rw [offN_take ts i hi, List.length_take, Nat.min_eq_left hi] at h9
 obtain ⟨n, rfl⟩ : ∃ q, n = q + 1 := ⟨n - 1, by omega⟩
 exact ⟨n, h9⟩
theorem next_at {z d l pos sq : Int} {ts : List Txd} (hp : 0 ≤ pos ∧ pos < l) (h : LogOk z d l pos sq 0 ts) {i : Nat} (hi : i < ts.length) : (pos + offN ts i) % l = ts[i].ps ∧ sq + i = ts[i].sq ∧ ts[i].nm ≤ l - offN ts i := by
 obtain ⟨e1, e2, -⟩ := LogOk.place (pos := pos) ts pos sq 0 i hi (by rw [Int.add_zero, Int.emod_eq_of_lt hp.1 hp.2]) h
 refine ⟨?_, (LogOk.sq_at ts _ _ _ i hi h).symm, by omega⟩
 rw [e1, Int.add_zero]
theorem scan_ends {K0 K1 : Int → Option Rcd} {z d l a ep ep' last pos sq : Int} {ts : List Txd} (V : Int → List Int) (i : Nat) (hi : i < ts.length) (hl : 14 ≤ l ∧ l ≤ 30) (hp : 0 ≤ pos ∧ pos < l) (h : LogOk z d l pos sq 0 ts)
  (hep : ∀ x ∈ ts.take i, ep = ep' ∨ (x.sq ≤ last ∧ ep ≤ ep'))
  (hK : ∀ x ∈ ts.take i, ∀ k : Nat, k ≤ x.ims.length → Told2 (K0 ((x.ps + (k : Int)) % l)) (K1 ((x.ps + (k : Int)) % l)) (recT ep x k) (V ((x.ps + (k : Int)) % l)))
  (he : (txnS K0 K1 l a ep' last ts[i].ps ts[i].sq (l - offN ts i)).how = 2) :
  scanK K0 K1 l a ep' last pos sq = finS last (sq + i) (ts.take i) (wsL l a ep V (ts.take i)) := by
 obtain ⟨n, h9⟩ := scan_upto (a := a) V i (by omega) hl hp h hep hK
 obtain ⟨e1, e2, -⟩ := next_at hp h hi
 rw [h9]
 exact runS_end (.inr (by rw [e1, e2]; exact he))
theorem scan_holed {K0 K1 : Int → Option Rcd} {z d l a ep ep' last pos sq : Int} {ts : List Txd} (V : Int → List Int) (i : Nat) (hi : i < ts.length) (hl : 14 ≤ l ∧ l ≤ 30) (hp : 0 ≤ pos ∧ pos < l) (h : LogOk z d l pos sq 0 ts)
  (hep : ∀ x ∈ ts.take i, ep = ep' ∨ (x.sq ≤ last ∧ ep ≤ ep'))
  (hK : ∀ x ∈ ts.take i, ∀ k : Nat, k ≤ x.ims.length → Told2 (K0 ((x.ps + (k : Int)) % l)) (K1 ((x.ps + (k : Int)) % l)) (recT ep x k) (V ((x.ps + (k : Int)) % l)))
  (he : (txnS K0 K1 l a ep' last ts[i].ps ts[i].sq (l - offN ts i)).how = 3) :
  scanK K0 K1 l a ep' last pos sq = ([], [], 12) := by
 obtain ⟨n, h9⟩ := scan_upto (a := a) V i (by omega) hl hp h hep hK
 obtain ⟨e1, e2, e3⟩ := next_at hp h hi
 obtain ⟨q1, -, q3, -, -, q6⟩ := LogOk.nm30 hl.2 ts _ _ _ (Int.le_refl 0) h ts[i] (List.getElem_mem hi)
 rw [h9]
 refine runS_hole ⟨?_, by omega⟩ (by rw [e1, e2]; exact he)
 have := (LogOk.some ts _ _ _ i hi h).2
 omega
theorem mem_take {α : Type} {ts : List α} {i : Nat} {x : α} (h : x ∈ ts.take i) : ∃ (j : Nat) (hj : j < ts.length), j < i ∧ ts[j] = x := by
 obtain ⟨j, hj, rfl⟩ := List.getElem_of_mem h
 rw [List.length_take] at hj
 exact ⟨j, by omega, by omega, by rw [List.getElem_take]⟩
theorem scan_hole {K0 K1 : Int → Option Rcd} {z d s' l a ep last pos sq : Int} {ts : List Txd} (ho : Ok z d s' l a) (hp : 0 ≤ pos ∧ pos < l) (h : LogOk z d l pos sq 0 ts) {i : Nat} (hi : i < ts.length) {k : Nat} (hk : k ≤ ts[i].ims.length)
  (hK : ∀ s, 0 ≤ s → s < l → s ≠ (ts[i].ps + (k : Int)) % l → K0 s = some (recAt l ep ts s) ∧ K1 s = some (recAt l ep ts s))
  (hN : K0 ((ts[i].ps + (k : Int)) % l) = none ∧ K1 ((ts[i].ps + (k : Int)) % l) = none) : scanK K0 K1 l a ep last pos sq = ([], [], 12) := by
 have hl : 14 ≤ l ∧ l ≤ 30 := ho.2.2.2.1
 have hx : ∀ (j : Nat) (hj : j < ts.length) (k' : Nat), k' ≤ ts[j].ims.length → (j ≠ i ∨ k' ≠ k) → Told2 (K0 ((ts[j].ps + (k' : Int)) % l)) (K1 ((ts[j].ps + (k' : Int)) % l)) (recT ep ts[j] k') [] := fun j hj k' hk' hne => by
  obtain ⟨q0, q1⟩ := slot_of (l := l) (q := ts[j].ps + (k' : Int)) (by omega)
  obtain ⟨-, n1, -⟩ := LogOk.nm30 hl.2 ts _ _ _ (Int.le_refl 0) h ts[j] (List.getElem_mem hj)
  obtain ⟨-, n2, -⟩ := LogOk.nm30 hl.2 ts _ _ _ (Int.le_refl 0) h ts[i] (List.getElem_mem hi)
  obtain ⟨k0, k1⟩ := hK _ q0 q1 fun e => by
   have w1 := who_at (by omega) hp h hj (k := (k' : Int)) ⟨by omega, by omega⟩
   have w2 := who_at (by omega) hp h hi (k := (k : Int)) ⟨by omega, by omega⟩
   rw [e, w2] at w1
   obtain ⟨e1, e2⟩ := Prod.mk.inj (Option.some.inj w1)
   rcases hne with q | q
   ·exact q e1.symm
   ·exact q (by omega)
  rw [k0, k1, recAt_of hl hp h (List.getElem_mem hj) hk']
  exact told_both _
 refine scan_holed (fun _ => []) i hi hl hp h (ep := ep) (fun _ _ => .inl rfl) (fun x hx' k' hk' => ?_) ?_
 ·obtain ⟨j, hj, hji, rfl⟩ := mem_take hx'
  exact hx j hj k' hk' (.inl (by omega))
 ·obtain ⟨-, -, e3⟩ := next_at hp h hi
  obtain ⟨q1, -⟩ := LogOk.nm30 hl.2 ts _ _ _ (Int.le_refl 0) h ts[i] (List.getElem_mem hi)
  obtain ⟨of, h9⟩ := txn_cut (K0 := K0) (K1 := K1) (a := a) (ep := ep) (ep' := ep) (last := last) (fun _ => []) k hk (LogOk.txd ts _ _ _ h ts[i] (List.getElem_mem hi)) q1 (.inl rfl) e3 (fun k' hk' => hx i hi k' (by omega) (.inr (by omega))) (fun of => by
   rw [hN.1, hN.2, lookK_hole]
   decide)
  rw [h9, hN.1, hN.2, lookK_hole]
theorem scan_elder {K0 K1 : Int → Option Rcd} {z d s' l a ep ep' pos sq : Int} {ts : List Txd} (ho : Ok z d s' l a) (hp : 0 ≤ pos ∧ pos < l) (h : LogOk z d l pos sq 0 ts) (he : ep < ep') {n : Nat} (hn : n ≤ ts.length)
  (hK : ∀ s, 0 ≤ s → s < l → K0 s = some (recAt l ep ts s) ∧ K1 s = some (recAt l ep ts s)) : scanK K0 K1 l a ep' (sq + n - 1) pos sq = (ts.take n, [], 0) := by
 have hl : 14 ≤ l ∧ l ≤ 30 := ho.2.2.2.1
 have hT : ∀ x ∈ ts, ∀ k : Nat, k ≤ x.ims.length → Told2 (K0 ((x.ps + (k : Int)) % l)) (K1 ((x.ps + (k : Int)) % l)) (recT ep x k) ((fun _ => ([] : List Int)) ((x.ps + (k : Int)) % l)) := fun x hx k hk => by
  obtain ⟨q0, q1⟩ := slot_of (l := l) (q := x.ps + (k : Int)) (by omega)
  obtain ⟨k0, k1⟩ := hK _ q0 q1
  rw [k0, k1, recAt_of hl hp h hx hk]
  exact told_both _
 have hws : ∀ ts', wsL l a ep (fun _ => []) ts' = [] := fun ts' => by unfold wsL wsT wsF wrK; simp
 have hep : ∀ x ∈ ts.take n, ep = ep' ∨ (x.sq ≤ sq + n - 1 ∧ ep ≤ ep') := fun x hx => by
  obtain ⟨j, hj, hji, rfl⟩ := mem_take hx
  have := LogOk.sq_at ts _ _ _ j hj h
  exact .inr ⟨by omega, by omega⟩
 have hfin : finS (sq + n - 1) (sq + n) (ts.take n) [] = (ts.take n, [], 0) := by unfold finS; rw [if_neg (by omega)]
 by_cases hlt : n < ts.length
 ·rw [scan_ends (K0 := K0) (K1 := K1) (a := a) (ep := ep) (ep' := ep') (last := sq + n - 1) (fun _ => []) n hlt hl hp h hep (fun x hx k hk => hT x (List.mem_of_mem_take hx) k hk) ?_, hws, hfin]
  obtain ⟨-, q2, q3⟩ := LogOk.nm30 hl.2 ts _ _ _ (Int.le_refl 0) h ts[n] (List.getElem_mem hlt)
  obtain ⟨q0, q1⟩ := slot_of (l := l) (q := ts[n].ps) (by omega)
  have e := recAt_of (ep := ep) hl hp h (List.getElem_mem hlt) (Nat.zero_le ts[n].ims.length)
  rw [show ts[n].ps + ((0 : Nat) : Int) = ts[n].ps by omega] at e
  obtain ⟨k0, k1⟩ := hK _ q0 q1
  rw [e] at k0 k1
  have hsq := LogOk.sq_at ts _ _ _ n hlt h
  have hne : ∀ left, oneK (some (recT ep ts[n] 0)) ep' (sq + n - 1) ts[n].sq 0 0 left = false := fun left => by
   unfold oneK
   refine decide_eq_false fun k => ?_
   have hee : (recT ep ts[n] 0).ep = ep := by
    unfold recT
    rw [txnR_img (show 0 < ts[n].ims.length by omega)]
    rfl
   rcases k.2.2.2.2.2 with g | g
   ·rw [hee] at g; omega
   ·omega
  have h8 : (lookK (K0 (ts[n].ps % l)) (K1 (ts[n].ps % l)) ep' (sq + n - 1) ts[n].sq 0 0 (l - offN ts n)).2.2 = 2 := by
   rw [k0, k1]
   exact lookK_end (hne _) (hne _) (.inl rfl)
  rw [txn_none (by rw [h8]; decide), h8]
 ·obtain rfl : n = ts.length := by omega
  rw [List.take_of_length_le (Nat.le_refl _)] at hfin hep ⊢
  rw [scan_log (K0 := K0) (K1 := K1) (a := a) (ep := ep) (ep' := ep') (last := sq + ts.length - 1) (fun _ => []) hl hp h hep hT ?_, hws, hfin]
  intro hu
  obtain ⟨-, e⟩ := recAt_free (ep := ep) (by omega) hp h hu
  obtain ⟨q0, q1⟩ := slot_of (l := l) (q := pos + offN ts ts.length) (by omega)
  obtain ⟨k0, k1⟩ := hK _ q0 q1
  rw [e] at k0 k1
  have h8 : (lookK (K0 ((pos + offN ts ts.length) % l % l)) (K1 ((pos + offN ts ts.length) % l % l)) ep' (sq + ts.length - 1) (sq + ts.length) 0 0 (l - offN ts ts.length)).2.2 = 2 := by
   rw [Int.emod_emod_of_dvd _ (Int.dvd_refl l), k0, k1]
   exact end_blank (.inl rfl) (.inl rfl) (.inl rfl)
  rw [txn_none (by rw [h8]; decide), h8]
end Go.Proofs.YtbfdpibjicjagaaGreatDoor.scn
namespace Go.Proofs.YtbfdpibjicjagaaGreatDoor.scn
open Go.RowKit Go.Lib
open Go.Proofs.YtbfdpibjicjagaaGreatDoor.gmt (Ok)
open Go.Proofs.YtbfdpibjicjagaaGreatDoor.lrc (Rcd noRec RecOk RdOk encR cellN SlotOk NumOk ImsOk)
open Go.Proofs.YtbfdpibjicjagaaGreatDoor.prr (SayOk sayR OneR pickR lookR lookW lookH)
open Go.Proofs.YtbfdpibjicjagaaGreatDoor.rng (Txd TxdOk LogOk offN whoN whoN_Q whoQ_any)
theorem recAt_behind {z d l pos S ep q : Int} {ts : List Txd} (hl : 0 < l) (hp : 0 ≤ pos ∧ pos < l) (h : LogOk z d l pos S 0 ts) (hq : offN ts ts.length ≤ q) (hu : q < l) : recAt l ep ts ((pos + q) % l) = noRec := by
 have h0 := rng.offN_nonneg h ts.length
 have e3 : q = ((pos + q) % l - pos) % l := by
  rw [Int.emod_sub_emod, show pos + q - pos = q by omega]
  exact (Int.emod_eq_of_lt (by omega) hu).symm
 have h1 : whoN l ((pos + q) % l) 0 ts = none := by
  rw [whoN_Q hl e3 ts 0 pos S 0 (by rw [Int.add_zero, Int.emod_eq_of_lt hp.1 hp.2]) (Int.le_refl 0) (by omega) h]
  have h8 := rng.whoQ_any (q := q) ts 0 pos S 0 (by omega) h
  cases hq2 : rng.whoQ q 0 0 ts with
  | none => rfl
  | some y =>
   rw [hq2] at h8
   have := h8.1 rfl
   omega
 unfold recAt
 rw [h1]
theorem recT_kd {ep : Int} {x : Txd} {k : Nat} (hk : k ≤ x.ims.length) : recT ep x k ≠ noRec := fun e => by
 have h := recT_nm (ep := ep) hk
 rw [e] at h
 have : (0 : Int) = (x.ims.length : Int) + 1 := h
 omega
theorem scan_cut {K0 K1 : Int → Option Rcd} {z d s' l a ep last pos sq : Int} {ts : List Txd} (ho : Ok z d s' l a) (hp : 0 ≤ pos ∧ pos < l) (h : LogOk z d l pos sq 0 ts) (m : Nat) (hm : ts.length = m + 1) (H : Nat → Nat) (hH : ∀ k, H k < 4)
  (hK : ∀ s, 0 ≤ s → s < l → (∀ k : Nat, k ≤ (ts[m]'(by omega)).ims.length → s ≠ ((ts[m]'(by omega)).ps + (k : Int)) % l) → K0 s = some (recAt l ep (ts.take m) s) ∧ K1 s = some (recAt l ep (ts.take m) s))
  (hX : ∀ k : Nat, k ≤ (ts[m]'(by omega)).ims.length → K0 (((ts[m]'(by omega)).ps + (k : Int)) % l) = some (if H k % 2 = 1 then recT ep (ts[m]'(by omega)) k else noRec) ∧ K1 (((ts[m]'(by omega)).ps + (k : Int)) % l) = some (if H k / 2 = 1 then recT ep (ts[m]'(by omega)) k else noRec))
  (hlast : last ≤ sq + m - 1) (wh : Bool) (hwh : wh = true ↔ ∀ k, k ≤ (ts[m]'(by omega)).ims.length → 0 < H k) :
  ∃ ws, scanK K0 K1 l a ep last pos sq = ((if wh = true then ts else ts.take m), ws, 0) := by
 have hl : 14 ≤ l ∧ l ≤ 30 := ho.2.2.2.1
 have hmlt : m < ts.length := by omega
 classical
 obtain ⟨V, hV⟩ : ∃ V : Int → List Int, V = fun s => if K0 s = some noRec then [0] else if K1 s = some noRec then [1] else [] := ⟨_, rfl⟩
 have hpre := LogOk.take ts _ _ _ m h
 have hT0 : ∀ x ∈ ts.take m, ∀ k : Nat, k ≤ x.ims.length → Told2 (K0 ((x.ps + (k : Int)) % l)) (K1 ((x.ps + (k : Int)) % l)) (recT ep x k) (V ((x.ps + (k : Int)) % l)) := fun x hx k hk => by
  obtain ⟨q0, q1⟩ := slot_of (l := l) (q := x.ps + (k : Int)) (by omega)
  obtain ⟨j, hj, hjm, rfl⟩ := mem_take hx
  obtain ⟨-, n1, -⟩ := LogOk.nm30 hl.2 ts _ _ _ (Int.le_refl 0) h ts[j] (List.getElem_mem hj)
  obtain ⟨-, n2, -⟩ := LogOk.nm30 hl.2 ts _ _ _ (Int.le_refl 0) h ts[m] (List.getElem_mem hmlt)
  obtain ⟨k0, k1⟩ := hK _ q0 q1 fun k' hk' e => by
   have w1 := who_at (by omega) hp h hj (k := (k : Int)) ⟨by omega, by omega⟩
   have w2 := who_at (by omega) hp h hmlt (k := (k' : Int)) ⟨by omega, by omega⟩
   rw [e, w2] at w1
   obtain ⟨e1, -⟩ := Prod.mk.inj (Option.some.inj w1)
   omega
  have hr := recAt_of (ep := ep) hl hp hpre hx hk
  rw [hr] at k0 k1
  have hne := recT_kd (ep := ep) hk
  have hV0 : V ((ts[j].ps + (k : Int)) % l) = [] := by
   rw [hV]
   simp only [k0, k1, Option.some.injEq, hne, if_false]
  rw [hV0, k0, k1]
  exact told_both _
 have hTX : ∀ k : Nat, k ≤ ts[m].ims.length → 0 < H k → Told2 (K0 ((ts[m].ps + (k : Int)) % l)) (K1 ((ts[m].ps + (k : Int)) % l)) (recT ep ts[m] k) (V ((ts[m].ps + (k : Int)) % l)) := fun k hk h0 => by
  obtain ⟨k0, k1⟩ := hX k hk
  have hne := recT_kd (ep := ep) hk
  have h4 := hH k
  have hc : H k = 1 ∨ H k = 2 ∨ H k = 3 := by omega
  rw [hV]
  simp only [k0, k1]
  rcases hc with e | e | e <;> rw [e]
  ·simp [hne]
   exact told_first' _
  ·simp
   exact told_second' _
  ·simp [hne]
   exact told_both _
 by_cases hw : ∀ k, k ≤ ts[m].ims.length → 0 < H k
 ·rw [if_pos (hwh.2 hw)]
  have hall : ∀ x ∈ ts, ∀ k : Nat, k ≤ x.ims.length → Told2 (K0 ((x.ps + (k : Int)) % l)) (K1 ((x.ps + (k : Int)) % l)) (recT ep x k) (V ((x.ps + (k : Int)) % l)) := fun x hx k hk => by
   obtain ⟨j, hj, rfl⟩ := List.getElem_of_mem hx
   by_cases e : j = m
   ·subst e
    exact hTX k hk (hw k hk)
   ·exact hT0 _ (List.mem_iff_getElem.2 ⟨j, by rw [List.length_take]; omega, by rw [List.getElem_take]⟩) k hk
  refine ⟨wsL l a ep V ts, ?_⟩
  rw [scan_log (K0 := K0) (K1 := K1) (a := a) (ep := ep) (ep' := ep) (last := last) V hl hp h (fun _ _ => .inl rfl) hall ?_]
  ·unfold finS
   rw [if_neg (by omega)]
  ·intro hu
   obtain ⟨q0, q1⟩ := slot_of (l := l) (q := pos + offN ts ts.length) (by omega)
   have hwn := (recAt_free (ep := ep) (by omega) hp h hu).1
   obtain ⟨k0, k1⟩ := hK _ q0 q1 fun k hk e => by
    obtain ⟨-, n2, -⟩ := LogOk.nm30 hl.2 ts _ _ _ (Int.le_refl 0) h ts[m] (List.getElem_mem hmlt)
    have w2 := who_at (by omega) hp h hmlt (k := (k : Int)) ⟨by omega, by omega⟩
    rw [← e, hwn] at w2
    cases w2
   have ho1 : offN (ts.take m) (ts.take m).length ≤ offN ts ts.length := by
    rw [offN_take ts m (by omega)]
    have := (LogOk.place (pos := pos) ts pos sq 0 m hmlt (by rw [Int.add_zero, Int.emod_eq_of_lt hp.1 hp.2]) h).2.2
    have := (LogOk.some ts _ _ _ m hmlt h).2
    omega
   rw [recAt_behind (by omega) hp hpre ho1 hu] at k0 k1
   have h8 : (lookK (K0 ((pos + offN ts ts.length) % l % l)) (K1 ((pos + offN ts ts.length) % l % l)) ep last (sq + ts.length) 0 0 (l - offN ts ts.length)).2.2 = 2 := by
    rw [Int.emod_emod_of_dvd _ (Int.dvd_refl l), k0, k1]
    exact end_blank (.inl rfl) (.inl rfl) (.inl rfl)
   rw [txn_none (by rw [h8]; decide), h8]
 ·rw [if_neg fun q => hw (hwh.1 q)]
  obtain ⟨j, hj, hjn, hji⟩ := least (fun k => 0 < H k) (ts[m].ims.length + 1) (fun q => hw fun k hk => q k (by omega))
  have hj0 : H j = 0 := by omega
  obtain ⟨-, -, e3⟩ := next_at hp h hmlt
  obtain ⟨q1, -⟩ := LogOk.nm30 hl.2 ts _ _ _ (Int.le_refl 0) h ts[m] (List.getElem_mem hmlt)
  obtain ⟨k0, k1⟩ := hX j (by omega)
  rw [hj0] at k0 k1
  have h8 : ∀ of, (lookK (K0 ((ts[m].ps + (j : Int)) % l)) (K1 ((ts[m].ps + (j : Int)) % l)) ep last ts[m].sq j of (l - offN ts m)).2.2 = 2 := fun of => by
   rw [k0, k1]
   exact end_blank (.inl rfl) (.inl rfl) (.inl rfl)
  obtain ⟨of, h9⟩ := txn_cut (K0 := K0) (K1 := K1) (a := a) (ep := ep) (ep' := ep) (last := last) (fun k => V ((ts[m].ps + (k : Int)) % l)) j (by omega) (LogOk.txd ts _ _ _ h ts[m] (List.getElem_mem hmlt)) q1 (.inl rfl) e3 (fun k hk => hTX k (by omega) (hji k hk)) (fun of => by rw [h8 of]; decide)
  refine ⟨wsL l a ep V (ts.take m), ?_⟩
  rw [scan_ends (K0 := K0) (K1 := K1) (a := a) (ep := ep) (ep' := ep) (last := last) V m hmlt hl hp h (fun _ _ => .inl rfl) hT0 (by rw [h9, h8])]
  unfold finS
  rw [if_neg (by omega)]
end Go.Proofs.YtbfdpibjicjagaaGreatDoor.scn
namespace Go.Proofs.YtbfdpibjicjagaaGreatDoor.scn
open Go.RowKit Go.Lib
open Go.Proofs.YtbfdpibjicjagaaGreatDoor.gmt (Ok)
open Go.Proofs.YtbfdpibjicjagaaGreatDoor.lrc (Rcd noRec RecOk NumOk encR encR_short cellN)
open Go.Proofs.YtbfdpibjicjagaaGreatDoor.prr (SayOk say_err say_turned)
open Go.Proofs.YtbfdpibjicjagaaGreatDoor.rng (Txd LogOk)
open Go.Proofs.YtbfdpibjicjagaaGreatDoor.sel (enc_length place maskOf place_lt mask_lt mask_odd)
open Go.Proofs.YtbfdpibjicjagaaGreatDoor.crc (TurnedAll)
theorem sayK_err {z d e : Int} {b : List UInt8} {addr : Nat} (h : e ≠ 0) : sayK z d (e, b) addr = none := sayK_none (say_err h)
theorem sayK_flip {z d s l a : Int} {r : Rcd} {addr q ad : Nat} {out : List UInt8} {bit msk : Int} (ho : Ok z d s l a) (hr : RecOk z d r) (hq : (sel.enc addr r.sq.toNat (encR r)).length = q) (ht : TurnedAll (sel.enc addr r.sq.toNat (encR r)) out (place bit q) (maskOf msk)) : sayK z d (0, out) ad = none := by
 subst hq
 have h59 := (encR_short hr ⟨ho.2.1.1, ho.2.1.2⟩).1
 have hle := enc_length addr r.sq.toNat (encR r)
 exact sayK_none (say_turned hr ho.2.1 ht (place_lt bit (by omega)) (mask_lt msk) (mask_odd msk))
theorem getD_set {F : List Rd} {j k : Nat} {y : Rd} (hj : j < F.length) : (F.set j y).getD k (0, []) = if k = j then y else F.getD k (0, []) := by
 rw [List.getD_eq_getElem?_getD, List.getD_eq_getElem?_getD, List.getElem?_set]
 by_cases h : k = j
 ·subst h
  rw [if_pos rfl, if_pos hj, if_pos rfl]
  rfl
 ·rw [if_neg (fun e => h e.symm), if_neg h]
theorem kOf_set {z d l a cp : Int} {F : List Rd} {j : Nat} {y : Rd} {s : Int} (hj : j < F.length) (hs : 0 ≤ s) : kOf z d l a cp (F.set j y) s = if s = (j : Int) then sayK z d y (cellN l a cp s) else kOf z d l a cp F s := by
 unfold kOf
 rw [getD_set hj]
 by_cases h : s = (j : Int)
 ·rw [if_pos h, if_pos (by omega)]
 ·rw [if_neg h, if_neg (by omega)]
end Go.Proofs.YtbfdpibjicjagaaGreatDoor.scn
namespace Go.Proofs.YtbfdpibjicjagaaGreatDoor.scn
open Go.RowKit Go.Lib
open Go.Proofs.YtbfdpibjicjagaaGreatDoor.gmt (Ok)
open Go.Proofs.YtbfdpibjicjagaaGreatDoor.lrc (Rcd noRec RecOk NumOk encR cellN)
open Go.Proofs.YtbfdpibjicjagaaGreatDoor.rng (Txd LogOk offN)
def cutF (F U : List Rd) (sl : Nat → Nat) (P : Nat → Bool) : Nat → List Rd
 | 0 => F
 | k + 1 => if P k = true then (cutF F U sl P k).set (sl k) (U.getD (sl k) (0, [])) else cutF F U sl P k
theorem cutF_length (F U : List Rd) (sl : Nat → Nat) (P : Nat → Bool) (k : Nat) : (cutF F U sl P k).length = F.length := by
 induction k with
 | zero => rfl
 | succ k ih =>
  rw [cutF]
  split
  ·rw [List.length_set, ih]
  ·exact ih
theorem cutF_out {F U : List Rd} {sl : Nat → Nat} {P : Nat → Bool} {s : Nat} : ∀ k, (∀ j, j < k → sl j < F.length) → (∀ j, j < k → s ≠ sl j) → (cutF F U sl P k).getD s (0, []) = F.getD s (0, []) := by
 intro k
 induction k with
 | zero => intro _ _; rfl
 | succ k ih =>
  intro hl hs
  have h1 := ih (fun j hj => hl j (by omega)) (fun j hj => hs j (by omega))
  rw [cutF]
  split
  ·rw [getD_set (by rw [cutF_length]; exact hl k (by omega)), if_neg (hs k (by omega))]
   exact h1
  ·exact h1
theorem cutF_in {F U : List Rd} {sl : Nat → Nat} {P : Nat → Bool} {j : Nat} : ∀ k, (∀ i, i < k → sl i < F.length) → (∀ i i', i < k → i' < k → sl i = sl i' → i = i') → j < k → (cutF F U sl P k).getD (sl j) (0, []) = if P j = true then U.getD (sl j) (0, []) else F.getD (sl j) (0, []) := by
 intro k
 induction k with
 | zero => intro _ _ h; exact absurd h (by omega)
 | succ k ih =>
  intro hl hi hj
  rw [cutF]
  by_cases hjk : j = k
  ·subst hjk
   have h2 : (cutF F U sl P j).getD (sl j) (0, []) = F.getD (sl j) (0, []) := cutF_out j (fun i h => hl i (by omega)) (fun i h e => by have := hi j i (by omega) (by omega) e; omega)
   split
   ·rw [getD_set (by rw [cutF_length]; exact hl j (by omega)), if_pos rfl]
   ·exact h2
  ·have h1 := ih (fun i h => hl i (by omega)) (fun i i' h h' => hi i i' (by omega) (by omega)) (by omega)
   split
   ·rw [getD_set (by rw [cutF_length]; exact hl k (by omega)), if_neg fun e => hjk (hi j k (by omega) (by omega) e)]
    exact h1
   ·exact h1
theorem cut_told {z d s' l a ep last pos sq : Int} {ts : List Txd} (ho : Ok z d s' l a) (hp : 0 ≤ pos ∧ pos < l) (h : LogOk z d l pos sq 0 ts) (hq : 0 ≤ sq) (he : NumOk ep) (m : Nat) (hm : ts.length = m + 1) (H : Nat → Nat) (hH : ∀ k, H k < 4) (hlast : last ≤ sq + m - 1) (x : Txd) (hx : ts[m]? = some x) (wh : Bool) (n : Nat) (hn : x.nm = (n : Int)) (hwh : wh = true ↔ ∀ k, k < n → 0 < H k) :
  ∃ ws, scanN z d l a ep last pos sq (cutF (writF l a 0 ep (ts.take m)) (writF l a 0 ep ts) (fun k => ((x.ps + (k : Int)) % l).toNat) (fun k => decide (H k % 2 = 1)) n) (cutF (writF l a 1 ep (ts.take m)) (writF l a 1 ep ts) (fun k => ((x.ps + (k : Int)) % l).toNat) (fun k => decide (H k / 2 = 1)) n) = ((if wh = true then ts else ts.take m), ws, 0) := by
 have hl : 14 ≤ l ∧ l ≤ 30 := ho.2.2.2.1
 have hmlt : m < ts.length := by omega
 have hxm : ts[m] = x := by rw [List.getElem?_eq_getElem hmlt] at hx; exact Option.some.inj hx
 have hmem : x ∈ ts := by rw [← hxm]; exact List.getElem_mem hmlt
 obtain ⟨q1, q2, q3, -⟩ := LogOk.nm30 hl.2 _ _ _ _ (Int.le_refl 0) h x hmem
 obtain ⟨e1, e2, -⟩ := LogOk.place (pos := pos) ts pos sq 0 m hmlt (by rw [Int.add_zero, Int.emod_eq_of_lt hp.1 hp.2]) h
 rw [hxm] at e1 e2
 have h0 := rng.offN_nonneg h m
 have hpre := LogOk.take ts _ _ _ m h
 have hsl : ∀ k : Nat, 0 ≤ (x.ps + (k : Int)) % l ∧ (x.ps + (k : Int)) % l < l := fun k => slot_of (by omega)
 have hlen : ∀ cp : Int, ∀ j, j < n → (fun k : Nat => ((x.ps + (k : Int)) % l).toNat) j < (writF l a cp ep (ts.take m)).length := fun cp j hj => by
  rw [writF_length]
  have := hsl j
  show ((x.ps + (j : Int)) % l).toNat < l.toNat
  omega
 have hinj : ∀ i i', i < n → i' < n → (fun k : Nat => ((x.ps + (k : Int)) % l).toNat) i = (fun k : Nat => ((x.ps + (k : Int)) % l).toNat) i' → i = i' := fun i i' hi hi' e => by
  have e : ((x.ps + (i : Int)) % l).toNat = ((x.ps + (i' : Int)) % l).toNat := e
  have k1 := hsl i
  have k2 := hsl i'
  exact slot_inj (l := l) (pos := x.ps) (by omega) (by omega) (by omega) (by omega)
 have hat : ∀ k : Nat, k ≤ x.ims.length → recAt l ep ts ((x.ps + (k : Int)) % l) = recT ep x k := fun k hk => recAt_of hl hp h hmem hk
 have hbl : ∀ k : Nat, k ≤ x.ims.length → recAt l ep (ts.take m) ((x.ps + (k : Int)) % l) = noRec := fun k hk => by
  have e3 : (x.ps + (k : Int)) % l = (pos + (offN ts m + (k : Int))) % l := by
   rw [e1, Int.add_zero, Int.emod_add_emod]
   congr 1
   omega
  rw [e3]
  exact recAt_behind (by omega) hp hpre (by rw [offN_take ts m (by omega)]; omega) (by omega)
 unfold scanN
 refine scan_cut ho hp h m hm H hH ?_ ?_ hlast wh ?_
 ·intro s h0 h1 hs
  rw [hxm] at hs
  have hne : ∀ j, j < n → s.toNat ≠ (fun k : Nat => ((x.ps + (k : Int)) % l).toNat) j := fun j hj e => by
   have e : s.toNat = ((x.ps + (j : Int)) % l).toNat := e
   have k1 := hsl j
   exact hs j (by omega) (by omega)
  have g0 := kOf_writ (cp := 0) (a := a) ho hp hpre hq he (.inl rfl) h0 h1
  have g1 := kOf_writ (cp := 1) (a := a) ho hp hpre hq he (.inr rfl) h0 h1
  unfold kOf at g0 g1 ⊢
  rw [cutF_out n (hlen 0) hne, cutF_out n (hlen 1) hne]
  exact ⟨g0, g1⟩
 ·intro k hk
  rw [hxm] at hk ⊢
  have k1 := hsl k
  have hkn : k < n := by omega
  have g0 := kOf_writ (cp := 0) (a := a) ho hp hpre hq he (.inl rfl) k1.1 k1.2
  have g1 := kOf_writ (cp := 1) (a := a) ho hp hpre hq he (.inr rfl) k1.1 k1.2
  have u0 := kOf_writ (cp := 0) (a := a) ho hp h hq he (.inl rfl) k1.1 k1.2
  have u1 := kOf_writ (cp := 1) (a := a) ho hp h hq he (.inr rfl) k1.1 k1.2
  rw [hbl k hk] at g0 g1
  rw [hat k hk] at u0 u1
  unfold kOf at g0 g1 u0 u1 ⊢
  have c0 := cutF_in (U := writF l a 0 ep ts) (P := fun k => decide (H k % 2 = 1)) n (hlen 0) hinj hkn
  have c1 := cutF_in (U := writF l a 1 ep ts) (P := fun k => decide (H k / 2 = 1)) n (hlen 1) hinj hkn
  rw [c0, c1]
  constructor
  ·by_cases hp : H k % 2 = 1
   ·rw [if_pos (decide_eq_true hp), if_pos hp]
    exact u0
   ·rw [if_neg (fun e => hp (of_decide_eq_true e)), if_neg hp]
    exact g0
  ·by_cases hp : H k / 2 = 1
   ·rw [if_pos (decide_eq_true hp), if_pos hp]
    exact u1
   ·rw [if_neg (fun e => hp (of_decide_eq_true e)), if_neg hp]
    exact g1
 ·rw [hxm, hwh]
  exact ⟨fun g k hk => g k (by omega), fun g k hk => g k (by omega)⟩
end Go.Proofs.YtbfdpibjicjagaaGreatDoor.scn
