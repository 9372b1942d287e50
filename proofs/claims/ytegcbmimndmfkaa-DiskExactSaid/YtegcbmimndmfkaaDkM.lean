/-
  Disks as plain data: what each call answers. Conditions: none.
-/
import Derived.Test.YtegcbmimndmfkaaDkV
namespace Go.Proofs.Ytegcbmimndmfkaa.dsk
open Go.RowKit

def OkCel (c : Cel) : Prop := 0 ≤ c.st ∧ c.st ≤ 2 ∧ c.bs.length ≤ 200 ∧ c.old.length ≤ 200
def OkWri (n : Nat) (x : Wri) : Prop := 0 ≤ x.addr ∧ x.addr < n ∧ x.bs.length ≤ 200
def Counts (d : Dsk) : Prop := (1 ≤ d.cells.length ∧ d.cells.length ≤ 300 ∧ d.cache.length ≤ 2000) ∧ 0 ≤ d.reqs ∧ d.reqs ≤ 1048576 ∧ -1 ≤ d.left ∧ d.left ≤ 1048576
def Valid (d : Dsk) : Prop := Counts d ∧ (∀ c ∈ d.cells, OkCel c) ∧ ∀ x ∈ d.cache, OkWri d.cells.length x
def HasC (d : Dsk) (a : Int) : Prop := 0 ≤ a ∧ a < d.cells.length
instance (c : Cel) : Decidable (OkCel c) := by unfold OkCel; infer_instance
instance (n : Nat) (x : Wri) : Decidable (OkWri n x) := by unfold OkWri; infer_instance
instance (d : Dsk) : Decidable (Counts d) := by unfold Counts; infer_instance
instance (d : Dsk) : Decidable (Valid d) := by unfold Valid; infer_instance
instance (d : Dsk) (a : Int) : Decidable (HasC d a) := by unfold HasC; infer_instance

/-- A request: the disk behind it (where Left is not 0). -/
def less (left : Int) : Int := if 0 < left then left - 1 else left
def req (d : Dsk) : Dsk := ⟨d.cells, d.cache, min (d.reqs + 1) 1048576, less d.left⟩
def onto (bs : List UInt8) (c : Cel) : Cel := if c.st = 2 then c else ⟨0, bs, c.bs⟩
def carry (cs : List Cel) (x : Wri) : List Cel := cs.modify x.addr.toNat (onto x.bs)
/-- Those writes that f names are carried out, in order. -/
def play (f : Nat → Bool) : Nat → List Cel → List Wri → List Cel
  | _, cs, [] => cs
  | i, cs, x :: ws => play f (i + 1) (if f i then carry cs x else cs) ws
def lastW : List Wri → Int → Option (List UInt8)
  | [], _ => none
  | x :: ws, a => match lastW ws a with
    | some b => some b
    | none => if x.addr = a then some x.bs else none
/-- What is read: the bytes, and why not. -/
def content (d : Dsk) (a : Int) : List UInt8 × Int := match lastW d.cache a with
  | some b => (b, 0)
  | none => match d.cells[a.toNat]? with
    | none => ([], 6)
    | some c => if c.st = 0 then (c.bs, 0) else ([], 6)
def pick (keep : Int) (i : Nat) : Bool := keep.toNat.testBit (i % 31)

def newA (n : Int) : Dsk × Int := if 1 ≤ n ∧ n ≤ 300 then (⟨List.replicate n.toNat ⟨0, [], []⟩, [], 0, -1⟩, 0) else (noDsk, 1)
def readA (d : Dsk) (a : Int) : Dsk × List UInt8 × Int := if ¬ (Valid d ∧ HasC d a) then (noDsk, [], 1) else if d.left = 0 then (d, [], 8) else (req d, content d a)
def bad (d : Dsk) (a : Int) : Prop := ((d.cells[a.toNat]?).map Cel.st = some 2) ∨ d.cache.length = 2000
instance (d : Dsk) (a : Int) : Decidable (bad d a) := by unfold bad; infer_instance
def writeA (d : Dsk) (a : Int) (b : List UInt8) : Dsk × Int := if ¬ (Valid d ∧ HasC d a ∧ b.length ≤ 200) then (noDsk, 1) else if d.left = 0 then (d, 8) else
  if bad d a then (req d, 7) else (⟨d.cells, d.cache ++ [⟨a, b⟩], (req d).reqs, (req d).left⟩, 0)
def flushA (d : Dsk) : Dsk × Int := if ¬ Valid d then (noDsk, 1) else if d.left = 0 then (d, 8) else (⟨play (fun _ => true) 0 d.cells d.cache, [], (req d).reqs, (req d).left⟩, 0)
def crashA (d : Dsk) (keep : Int) : Dsk × Int := if ¬ (Valid d ∧ 0 ≤ keep) then (noDsk, 1) else (⟨play (pick keep) 0 d.cells d.cache, [], d.reqs, -1⟩, 0)

theorem carry_length (cs : List Cel) (x : Wri) : (carry cs x).length = cs.length := by simp [carry]
theorem play_length (f : Nat → Bool) : ∀ (ws : List Wri) (i : Nat) (cs : List Cel), (play f i cs ws).length = cs.length
  | [], _, _ => rfl
  | x :: ws, i, cs => by
    rw [play, play_length f ws]
    split
    · exact carry_length cs x
    · rfl
theorem play_next (f : Nat → Bool) {ws : List Wri} {k : Nat} {x : Wri} (h : ws[k]? = some x) (cs : List Cel) : play f k cs (ws.drop k) = play f (k + 1) (if f k then carry cs x else cs) (ws.drop (k + 1)) := by
  obtain ⟨hk, rfl⟩ := List.getElem?_eq_some_iff.1 h
  rw [List.drop_eq_getElem_cons hk]
  rfl
theorem play_done (f : Nat → Bool) (ws : List Wri) (k : Nat) (cs : List Cel) (h : ws.length ≤ k) : play f k cs (ws.drop k) = cs := by
  rw [List.drop_eq_nil_of_le h]
  rfl
theorem lastW_append (ws : List Wri) (x : Wri) (a : Int) : lastW (ws ++ [x]) a = if x.addr = a then some x.bs else lastW ws a := by
  induction ws with
  | nil => simp [lastW]
  | cons y ws ih =>
    rw [List.cons_append, lastW, ih, lastW]
    split <;> rename_i h
    · by_cases hx : x.addr = a
      · rw [if_pos hx] at h ⊢; exact h.symm
      · rw [if_neg hx] at h ⊢; rw [h]
    · by_cases hx : x.addr = a
      · rw [if_pos hx] at h; cases h
      · rw [if_neg hx] at h ⊢; rw [h]
theorem lastW_take {ws : List Wri} {k : Nat} {x : Wri} (h : ws[k]? = some x) (a : Int) : lastW (ws.take (k + 1)) a = if x.addr = a then some x.bs else lastW (ws.take k) a := by
  obtain ⟨hk, rfl⟩ := List.getElem?_eq_some_iff.1 h
  rw [List.take_succ_eq_append_getElem hk, lastW_append]
end Go.Proofs.Ytegcbmimndmfkaa.dsk
