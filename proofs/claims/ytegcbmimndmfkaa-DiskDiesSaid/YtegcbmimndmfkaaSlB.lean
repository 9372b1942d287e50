/-
  Package seal's Make, by its contract. Conditions: payloads shorter than 2^20.
-/
import Derived.Test.YtegcbmimndmfkaaSlA
namespace Go.Proofs.Ytegcbmimndmfkaa.sel
open Go.RowKit Go.Lib
open Go.Proofs.Ytegcbmimndmfkaa.pck (Put AllFit Rowed bytesOf le le_length Fits own_far)
open Go.Proofs.Ytegcbmimndmfkaa.crc (sum sum_lt)

/-- A sector's value. -/
def secV (a s : Int) (A : Option Addr) (n c : Nat) : Value := .agg #[.int .i64 a, .int .i64 s, .slice A n c]
/-- What Make answers. -/
def Made (base : Nat) (r : Mk) (e : Ending) (w' : World) : Prop := ∃ v, e = .returned (.tuple #[v, .int .i64 r.err]) ∧ Own w' base 5 v r.bytes

theorem two_fit {a s : Int} : AllFit [(a, 2), (s, 4)] ↔ OkS a s := by
  constructor
  · intro h
    obtain ⟨k, m, hs, hn, hk, hm⟩ := h (a, 2) (by simp)
    obtain ⟨k', m', hs', hn', hk', hm'⟩ := h (s, 4) (by simp)
    simp only at hs hn hs' hn'
    obtain rfl : k = 2 := by omega
    obtain rfl : k' = 4 := by omega
    refine ⟨by omega, by omega, by omega, by omega⟩
  · rintro ⟨h1, h2, h3, h4⟩ p hp
    simp only [List.mem_cons, List.not_mem_nil, or_false] at hp
    rcases hp with rfl | rfl
    · exact ⟨2, a.toNat, rfl, by simp only; omega, .inr (.inl rfl), by omega⟩
    · exact ⟨4, s.toNat, rfl, by simp only; omega, .inr (.inr rfl), by omega⟩
theorem two_bytes (a s : Int) : bytesOf [(a, 2), (s, 4)] = le 2 a.toNat ++ le 4 s.toNat := by simp [bytesOf]
theorem kal {a W : World} (h : Below a.heap.size a W) (o : Obj) : Below a.heap.size a (W.alloc o) := h.alloc h.size o
theorem old_new (w : World) (o o' : Obj) : ((w.alloc o).alloc o').heap[w.heap.size]? = some o := (heap_alloc_old _ _ (by simp)).trans (heap_alloc_new w o)
theorem new_new (w : World) (o o' : Obj) : ((w.alloc o).alloc o').heap[w.heap.size + 1]? = some o' := by
  have := heap_alloc_new (w.alloc o) o'
  rwa [show (w.alloc o).heap.size = w.heap.size + 1 by simp] at this
theorem kst {a W : World} (h : Below a.heap.size a W) {b o : Nat} {v : Value} (hb : b < a.heap.size) (hv : a.cell? ⟨b, o, none⟩ = some v) : W.cell? ⟨b, o, none⟩ = some v := (h.cell (p := ⟨b, o, none⟩) hb).trans hv
/-- A slice that an answer bears: its bytes, somewhere. -/
def Lies (w' : World) (X : Option Addr) (x : Nat) (l : List UInt8) : Prop := l.length ≤ x ∧ x ≤ maxLen ∧ Sl w' w'.heap.size X l
end Go.Proofs.Ytegcbmimndmfkaa.sel
