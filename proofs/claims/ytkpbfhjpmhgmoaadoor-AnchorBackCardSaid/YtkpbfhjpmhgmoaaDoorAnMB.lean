/-
  What stands where in an anchor's bytes: plain mathematics. No condition beyond each law's own.
-/
import Derived.Test.YtkpbfhjpmhgmoaaDoorAnM
namespace Go.Proofs.YtkpbfhjpmhgmoaaDoor.anc
open Go.RowKit Go.Lib
open Go.Proofs.YtkpbfhjpmhgmoaaDoor.pck (le le_length num num_le)
open Go.Proofs.YtkpbfhjpmhgmoaaDoor.lbl (encL readL labE lab_len)

theorem enc_nums {Z D : Nat} {a : Anc} (h : AncB Z D a) :
    (num ((encA a).take 4) : Int) = a.gen ∧ (num (((encA a).drop 4).take 4) : Int) = a.ep ∧ (num (((encA a).drop 8).take 4) : Int) = a.seq ∧ (num (((encA a).drop 12).take 4) : Int) = a.last ∧ (num (((encA a).drop 16).take 1) : Int) = a.pos := by
  have hp := parsed_of h []
  rw [List.append_nil] at hp
  unfold parsed at hp
  split at hp
  · cases hp
  · split at hp
    · cases hp
    · split at hp
      · cases hp
      · simp only [Option.some.injEq, Prod.mk.injEq] at hp
        obtain ⟨h1, -⟩ := hp
        exact ⟨congrArg Anc.gen h1, congrArg Anc.ep h1, congrArg Anc.seq h1, congrArg Anc.last h1, congrArg Anc.pos h1⟩
theorem num1 (x : UInt8) (b : List UInt8) : num ((x :: b).take 1) = x.toNat := by simp [num]
theorem enc_byte {Z D : Nat} {a : Anc} (h : AncB Z D a) (h16 : 16 < (encA a).length) : (((encA a)[16]).toNat : Int) = a.pos := by
  have := (enc_nums h).2.2.2.2
  rw [List.drop_eq_getElem_cons h16, num1] at this
  exact this
theorem enc_lab {a : Anc} (hl : a.lab.size ≤ 24) (h17 : 17 < (encA a).length) : (((encA a)[17]).toNat : Int) = (a.lab.size : Int) := by
  have e : (encA a)[17] = UInt8.ofNat a.lab.data.toList.length := by
    have h : (encA a)[17]? = some (UInt8.ofNat a.lab.data.toList.length) := by
      unfold encA encT encL
      rw [List.getElem?_append_right (by rw [encN_len]; omega), encN_len]
      rfl
    rw [List.getElem?_eq_getElem h17] at h
    exact Option.some.inj h
  rw [e, size_list, UInt8.toNat_ofNat']
  omega
theorem enc_root {Z D : Nat} {a : Anc} (h : AncB Z D a) (x : Hom) (hx : a.hs[a.hs.length - 1]? = some x) (q : Nat) (hq : (encA a).length = q) : (num (((encA a).drop (q - 4)).take 4) : Int) = x.rt := by
  have hm := List.mem_of_getElem? hx
  obtain ⟨-, -, -, hr⟩ := h.2.2.2.2.2.2.2 x hm
  have hne : a.hs ≠ [] := fun e => by rw [e] at hx; cases hx
  have eg : a.hs.getLast hne = x := by
    rw [List.getLast_eq_getElem]
    obtain ⟨hlt, rfl⟩ := List.getElem?_eq_some_iff.1 hx
    rfl
  have e1 : a.hs = a.hs.dropLast ++ [x] := by
    rw [← eg]
    exact (List.dropLast_concat_getLast hne).symm
  have e2 := congrArg (fun l => l.flatMap encH) e1
  simp only [List.flatMap_append] at e2
  obtain ⟨P, hP⟩ : ∃ P, encA a = P ++ le 4 x.rt.toNat := by
    refine ⟨encN a ++ (encL a.lab.data.toList ++ (a.hs.dropLast.flatMap encH ++ (x.ps.flatMap (fun p => le 1 p.toNat) ++ le 1 x.nx.toNat))), ?_⟩
    unfold encA encT
    rw [e2]
    simp [encH, List.append_assoc]
  have hl : P.length = q - 4 := by
    have := congrArg List.length hP
    rw [List.length_append, le_length, hq] at this
    omega
  rw [hP, List.drop_left' hl, List.take_of_length_le (by rw [le_length]; exact Nat.le_refl 4), num_le4 hr]
end Go.Proofs.YtkpbfhjpmhgmoaaDoor.anc
