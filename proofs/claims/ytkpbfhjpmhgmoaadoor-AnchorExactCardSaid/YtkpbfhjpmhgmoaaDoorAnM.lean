/-
  Anchors as bytes, and back: plain mathematics. No condition beyond each law's own.
-/
import Derived.Test.YtkpbfhjpmhgmoaaDoorAnR
import Derived.Test.YtkpbfhjpmhgmoaaDoorLblD
import Derived.Test.YtkpbfhjpmhgmoaaDoorGPk
namespace Go.Proofs.YtkpbfhjpmhgmoaaDoor.anc
open Go.RowKit Go.Lib
open Go.Proofs.YtkpbfhjpmhgmoaaDoor.gmt (Ok)
open Go.Proofs.YtkpbfhjpmhgmoaaDoor.pck (le le_length le_one num num_le num_lt le_num)
open Go.Proofs.YtkpbfhjpmhgmoaaDoor.lbl (encL readL labE lab_len)

/-- A home's bytes; an anchor's. -/
def encH (h : Hom) : List UInt8 := h.ps.flatMap (fun p => le 1 p.toNat) ++ (le 1 h.nx.toNat ++ le 4 h.rt.toNat)
def encN (a : Anc) : List UInt8 := le 4 a.gen.toNat ++ (le 4 a.ep.toNat ++ (le 4 a.seq.toNat ++ (le 4 a.last.toNat ++ le 1 a.pos.toNat)))
def encT (a : Anc) : List UInt8 := encL a.lab.data.toList ++ a.hs.flatMap encH
def encA (a : Anc) : List UInt8 := encN a ++ encT a

/-- The home that bytes begin with; n of them. -/
def homeN (D : Nat) (r : List UInt8) : Hom := ⟨(r.take (D + 1)).map (fun x => (x.toNat : Int)), (num ((r.drop (D + 1)).take 1) : Int), (num ((r.drop (D + 2)).take 4) : Int)⟩
def homesN (D : Nat) (r : List UInt8) (n : Nat) : List Hom := (List.range n).map fun k => homeN D (r.drop (k * (D + 6)))
def ancN (b t : List UInt8) (hs : List Hom) : Anc := ⟨(num (b.take 4) : Int), (num ((b.drop 4).take 4) : Int), (num ((b.drop 16).take 1) : Int), (num ((b.drop 8).take 4) : Int), (num ((b.drop 12).take 4) : Int), ⟨t.toArray⟩, hs⟩
/-- The anchor, right or not, that bytes begin with, and the rest. -/
def parsed (Z D : Nat) (b : List UInt8) : Option (Anc × List UInt8) :=
  if b.length < 17 then none else
  match readL (b.drop 17) with
  | none => none
  | some t => if (b.drop (18 + t.length)).length < Z * (D + 6) then none else some (ancN b t (homesN D (b.drop (18 + t.length)) Z), (b.drop (18 + t.length)).drop (Z * (D + 6)))

theorem byte_back (x : UInt8) : UInt8.ofNat (x.toNat % 256) = x := by
  have := x.toNat_lt
  rw [Nat.mod_eq_of_lt (by omega)]
  simp
theorem le1_flat (l : List UInt8) : (l.map fun x => (x.toNat : Int)).flatMap (fun p => le 1 p.toNat) = l := by
  induction l with
  | nil => rfl
  | cons x l ih =>
    rw [List.map_cons, List.flatMap_cons, ih, Int.toNat_natCast, le_one, byte_back]
    rfl
theorem flat_le1 (l : List Int) (h : ∀ p ∈ l, 0 ≤ p ∧ p < 256) : (l.flatMap (fun p => le 1 p.toNat)).map (fun x => (x.toNat : Int)) = l := by
  induction l with
  | nil => rfl
  | cons x l ih =>
    have hx := h x List.mem_cons_self
    rw [List.flatMap_cons, List.map_append, ih fun p hp => h p (List.mem_cons_of_mem _ hp), le_one]
    have : (UInt8.ofNat (x.toNat % 256)).toNat = x.toNat % 256 := by rw [UInt8.toNat_ofNat']; omega
    simp only [List.map_cons, List.map_nil, this]
    rw [show ((x.toNat % 256 : Nat) : Int) = x by omega]
    rfl
theorem flat_le1_len (l : List Int) : (l.flatMap (fun p => le 1 p.toNat)).length = l.length := by
  induction l with
  | nil => rfl
  | cons x l ih => rw [List.flatMap_cons, List.length_append, ih, le_length, List.length_cons]; omega
theorem le_num' {k : Nat} {l : List UInt8} (h : l.length = k) : le k (num l) = l := by subst h; exact le_num l
theorem cut_len {l : List UInt8} {k n : Nat} (h : k + n ≤ l.length) : ((l.drop k).take n).length = n := by rw [List.length_take, List.length_drop]; omega
theorem encH_length {D : Nat} {h : Hom} (hh : h.ps.length = D + 1) : (encH h).length = D + 6 := by
  unfold encH
  rw [List.length_append, List.length_append, flat_le1_len, le_length, le_length]
  omega
theorem encHs_length {D : Nat} : ∀ {hs : List Hom}, (∀ h ∈ hs, h.ps.length = D + 1) → (hs.flatMap encH).length = hs.length * (D + 6)
  | [], _ => by simp
  | h :: hs, hh => by
    rw [List.flatMap_cons, List.length_append, encH_length (hh h List.mem_cons_self), encHs_length fun x hx => hh x (List.mem_cons_of_mem _ hx), List.length_cons, Nat.succ_mul]
    omega
theorem encH_homeN (D : Nat) (r : List UInt8) (h : D + 6 ≤ r.length) : encH (homeN D r) = r.take (D + 6) := by
  unfold encH homeN
  simp only [Int.toNat_natCast]
  rw [le1_flat, le_num' (cut_len (by omega)), le_num' (cut_len (by omega))]
  rw [show r.drop (D + 2) = (r.drop (D + 1)).drop 1 by rw [List.drop_drop], ← List.take_add, ← List.take_add]
theorem homeN_len (D : Nat) (r : List UInt8) (h : D + 1 ≤ r.length) : (homeN D r).ps.length = D + 1 := by
  show ((r.take (D + 1)).map _).length = _
  rw [List.length_map, List.length_take]
  omega
theorem homesN_enc (D : Nat) (r : List UInt8) : ∀ n, n * (D + 6) ≤ r.length → (homesN D r n).flatMap encH = r.take (n * (D + 6))
  | 0, _ => by simp [homesN]
  | n + 1, h => by
    rw [Nat.succ_mul] at h ⊢
    have ih := homesN_enc D r n (by omega)
    unfold homesN at ih ⊢
    rw [List.range_succ, List.map_append, List.flatMap_append, ih, List.take_add]
    simp only [List.map_cons, List.map_nil, List.flatMap_cons, List.flatMap_nil, List.append_nil]
    rw [encH_homeN D _ (by rw [List.length_drop]; omega)]
theorem homesN_next (D : Nat) (r : List UInt8) (n : Nat) : homesN D r (n + 1) = homesN D r n ++ [homeN D (r.drop (n * (D + 6)))] := by
  unfold homesN
  rw [List.range_succ, List.map_append]
  rfl
theorem homesN_len (D : Nat) (r : List UInt8) (n : Nat) : (homesN D r n).length = n := by simp [homesN]
theorem homesN_mem {D : Nat} {r : List UInt8} {n : Nat} (h : n * (D + 6) ≤ r.length) : ∀ x ∈ homesN D r n, x.ps.length = D + 1 := by
  intro x hx
  obtain ⟨k, hk, rfl⟩ := List.mem_map.1 hx
  have := List.mem_range.1 hk
  have h2 : (k + 1) * (D + 6) ≤ n * (D + 6) := Nat.mul_le_mul_right _ this
  rw [Nat.succ_mul] at h2
  exact homeN_len D _ (by rw [List.length_drop]; omega)

/-- A home of numbers of their sizes. -/
def HomB (D : Nat) (h : Hom) : Prop := h.ps.length = D + 1 ∧ (∀ p ∈ h.ps, 0 ≤ p ∧ p < 256) ∧ (0 ≤ h.nx ∧ h.nx < 256) ∧ 0 ≤ h.rt ∧ h.rt < 4294967296
theorem num_le1 {n : Int} (h : 0 ≤ n ∧ n < 256) : ((num (le 1 n.toNat) : Nat) : Int) = n := by rw [num_le _ _ (by omega)]; omega
theorem num_le4 {n : Int} (h : 0 ≤ n ∧ n < 4294967296) : ((num (le 4 n.toNat) : Nat) : Int) = n := by rw [num_le _ _ (by omega)]; omega
theorem homeN_enc {D : Nat} {h : Hom} (hb : HomB D h) (r : List UInt8) : homeN D (encH h ++ r) = h := by
  obtain ⟨h1, h2, h3, h4⟩ := hb
  obtain ⟨ps, nx, rt⟩ := h
  have hP : (ps.flatMap fun p => le 1 p.toNat).length = D + 1 := by rw [flat_le1_len]; exact h1
  unfold homeN encH
  have e1 : ((ps.flatMap fun p => le 1 p.toNat) ++ (le 1 nx.toNat ++ le 4 rt.toNat) ++ r).take (D + 1) = ps.flatMap fun p => le 1 p.toNat := by
    rw [List.append_assoc, List.take_left' hP]
  have e2 : ((ps.flatMap fun p => le 1 p.toNat) ++ (le 1 nx.toNat ++ le 4 rt.toNat) ++ r).drop (D + 1) = le 1 nx.toNat ++ (le 4 rt.toNat ++ r) := by
    rw [List.append_assoc, List.drop_left' hP, List.append_assoc]
  have e3 : ((ps.flatMap fun p => le 1 p.toNat) ++ (le 1 nx.toNat ++ le 4 rt.toNat) ++ r).drop (D + 2) = le 4 rt.toNat ++ r := by
    rw [show D + 2 = D + 1 + 1 by omega, ← List.drop_drop, e2, List.drop_left' (le_length _ _)]
  simp only []
  rw [e1, e2, e3, List.take_left' (le_length _ _), List.take_left' (le_length _ _), flat_le1 ps h2, num_le1 h3, num_le4 h4]
theorem homesN_of {D : Nat} : ∀ (hs : List Hom) (r : List UInt8), (∀ h ∈ hs, HomB D h) → homesN D (hs.flatMap encH ++ r) hs.length = hs
  | [], _, _ => rfl
  | h :: hs, r, hb => by
    have h0 := hb h List.mem_cons_self
    have ih := homesN_of hs r fun x hx => hb x (List.mem_cons_of_mem _ hx)
    unfold homesN at ih ⊢
    rw [List.length_cons, List.range_succ_eq_map, List.map_cons, List.map_map, List.flatMap_cons, List.append_assoc, Nat.zero_mul, List.drop_zero, homeN_enc h0]
    congr 1
    refine Eq.trans (List.map_congr_left fun k _ => ?_) ih
    show homeN D ((encH h ++ _).drop ((k + 1) * (D + 6))) = _
    rw [Nat.succ_mul, Nat.add_comm, ← List.drop_drop, List.drop_left' (encH_length h0.1)]

theorem readL_sound {b t : List UInt8} (h : readL b = some t) : b = encL t ++ b.drop (1 + t.length) ∧ labE t = 0 ∧ t.length + 1 ≤ b.length := by
  cases b with
  | nil => cases h
  | cons n r =>
    unfold readL at h
    simp only at h
    split at h
    · cases h
    · split at h
      · rename_i h1 h2
        obtain rfl := Option.some.inj h
        have hl : (r.take n.toNat).length = n.toNat := by rw [List.length_take]; omega
        refine ⟨?_, h2, by rw [hl, List.length_cons]; omega⟩
        unfold encL
        rw [hl, Nat.add_comm, List.drop_succ_cons, List.cons_append, List.take_append_drop]
        simp
      · cases h
theorem readL_of {t : List UInt8} (h : labE t = 0) (r : List UInt8) : readL (encL t ++ r) = some t := by
  have hl := lab_len h
  have hn : (UInt8.ofNat t.length).toNat = t.length := by rw [UInt8.toNat_ofNat']; omega
  unfold encL readL
  rw [List.cons_append]
  simp only [hn]
  rw [if_neg (by rw [List.length_append]; omega), List.take_left, if_pos h]
theorem encL_len (t : List UInt8) : (encL t).length = 1 + t.length := by unfold encL; rw [List.length_cons]; omega

theorem le_cut (b : List UInt8) (k n : Nat) (h : k + n ≤ b.length) : le n (num ((b.drop k).take n)) = (b.drop k).take n := le_num' (cut_len h)
theorem encN_len (a : Anc) : (encN a).length = 17 := by unfold encN; simp [le_length]
theorem encN_ancN (b t : List UInt8) (hs : List Hom) (h : 17 ≤ b.length) : encN (ancN b t hs) = b.take 17 := by
  unfold encN ancN
  simp only [Int.toNat_natCast]
  have h0 : le 4 (num (b.take 4)) = b.take 4 := by have := le_cut b 0 4 (by omega); simpa using this
  rw [h0, le_cut b 4 4 (by omega), le_cut b 8 4 (by omega), le_cut b 12 4 (by omega), le_cut b 16 1 (by omega)]
  rw [show (17 : Nat) = 4 + (4 + (4 + (4 + 1))) from rfl, List.take_add, List.take_add, List.take_add, List.take_add, List.drop_drop, List.drop_drop, List.drop_drop]

theorem parsed_sound {Z D : Nat} {b r : List UInt8} {a : Anc} (h : parsed Z D b = some (a, r)) :
    b = encA a ++ r ∧ a.hs.length = Z ∧ (∀ x ∈ a.hs, x.ps.length = D + 1) ∧ labE a.lab.data.toList = 0 := by
  unfold parsed at h
  split at h
  · cases h
  · rename_i h17
    split at h
    · cases h
    · rename_i t ht
      split at h
      · cases h
      · rename_i hr
        simp only [Option.some.injEq, Prod.mk.injEq] at h
        obtain ⟨rfl, rfl⟩ := h
        obtain ⟨k1, k2, k3⟩ := readL_sound ht
        refine ⟨?_, homesN_len _ _ _, homesN_mem (by omega), k2⟩
        rw [List.length_drop] at k3
        unfold encA encT
        rw [encN_ancN b t _ (by omega)]
        show b = b.take 17 ++ (encL t ++ (homesN D (b.drop (18 + t.length)) Z).flatMap encH) ++ (b.drop (18 + t.length)).drop (Z * (D + 6))
        rw [homesN_enc D _ Z (by omega), List.append_assoc, List.append_assoc, List.take_append_drop]
        rw [List.drop_drop, show 17 + (1 + t.length) = 18 + t.length by omega] at k1
        rw [← k1, List.take_append_drop]
theorem ba_eq (a : ByteArray) : (⟨a.data.toList.toArray⟩ : ByteArray) = a := by
  cases a
  rfl
/-- An anchor of numbers of their sizes. -/
def AncB (Z D : Nat) (a : Anc) : Prop := (0 ≤ a.gen ∧ a.gen < 4294967296) ∧ (0 ≤ a.ep ∧ a.ep < 4294967296) ∧ (0 ≤ a.seq ∧ a.seq < 4294967296) ∧ (0 ≤ a.last ∧ a.last < 4294967296) ∧ (0 ≤ a.pos ∧ a.pos < 256) ∧ labE a.lab.data.toList = 0 ∧ a.hs.length = Z ∧ ∀ h ∈ a.hs, HomB D h
theorem cut_left (x y z : List UInt8) (k n : Nat) (hk : x.length = k) (hn : y.length = n) : ((x ++ (y ++ z)).drop k).take n = y := by
  rw [List.drop_left' hk, List.take_left' hn]
theorem parsed_of {Z D : Nat} {a : Anc} (h : AncB Z D a) (r : List UInt8) : parsed Z D (encA a ++ r) = some (a, r) := by
  obtain ⟨h1, h2, h3, h4, h5, h6, h7, h8⟩ := h
  obtain ⟨gen, ep, pos, seq, last, lab, hs⟩ := a
  have hl : (hs.flatMap encH).length = Z * (D + 6) := by rw [encHs_length (D := D) fun x hx => (h8 x hx).1, show hs.length = Z from h7]
  have e1 : encA ⟨gen, ep, pos, seq, last, lab, hs⟩ ++ r = encN ⟨gen, ep, pos, seq, last, lab, hs⟩ ++ (encL lab.data.toList ++ (hs.flatMap encH ++ r)) := by
    unfold encA encT
    simp [List.append_assoc]
  have e2 : (encA ⟨gen, ep, pos, seq, last, lab, hs⟩ ++ r).drop 17 = encL lab.data.toList ++ (hs.flatMap encH ++ r) := by
    rw [e1, List.drop_left' (encN_len _)]
  have e3 : (encA ⟨gen, ep, pos, seq, last, lab, hs⟩ ++ r).drop (18 + lab.data.toList.length) = hs.flatMap encH ++ r := by
    rw [show 18 + lab.data.toList.length = 17 + (1 + lab.data.toList.length) by omega, ← List.drop_drop, e2, List.drop_left' (encL_len _)]
  have e0 : ¬ (encA ⟨gen, ep, pos, seq, last, lab, hs⟩ ++ r).length < 17 := by
    rw [e1, List.length_append, encN_len]
    omega
  have eR : readL (encL lab.data.toList ++ (hs.flatMap encH ++ r)) = some lab.data.toList := readL_of h6 _
  unfold parsed
  rw [if_neg e0, e2, eR]
  simp only
  rw [e3, if_neg (by rw [List.length_append, hl]; omega), List.drop_left' hl, ← h7, homesN_of hs r h8]
  unfold ancN
  rw [ba_eq, e1]
  unfold encN
  simp only [List.append_assoc]
  generalize encL lab.data.toList ++ (hs.flatMap encH ++ r) = q
  have c0 : (le 4 gen.toNat ++ (le 4 ep.toNat ++ (le 4 seq.toNat ++ (le 4 last.toNat ++ (le 1 pos.toNat ++ q))))).take 4 = le 4 gen.toNat := List.take_left' (le_length _ _)
  have d4 : (le 4 gen.toNat ++ (le 4 ep.toNat ++ (le 4 seq.toNat ++ (le 4 last.toNat ++ (le 1 pos.toNat ++ q))))).drop 4 = le 4 ep.toNat ++ (le 4 seq.toNat ++ (le 4 last.toNat ++ (le 1 pos.toNat ++ q))) := List.drop_left' (le_length _ _)
  have d8 : (le 4 gen.toNat ++ (le 4 ep.toNat ++ (le 4 seq.toNat ++ (le 4 last.toNat ++ (le 1 pos.toNat ++ q))))).drop 8 = le 4 seq.toNat ++ (le 4 last.toNat ++ (le 1 pos.toNat ++ q)) := by
    rw [show 8 = 4 + 4 from rfl, ← List.drop_drop, d4, List.drop_left' (le_length _ _)]
  have d12 : (le 4 gen.toNat ++ (le 4 ep.toNat ++ (le 4 seq.toNat ++ (le 4 last.toNat ++ (le 1 pos.toNat ++ q))))).drop 12 = le 4 last.toNat ++ (le 1 pos.toNat ++ q) := by
    rw [show 12 = 8 + 4 from rfl, ← List.drop_drop, d8, List.drop_left' (le_length _ _)]
  have d16 : (le 4 gen.toNat ++ (le 4 ep.toNat ++ (le 4 seq.toNat ++ (le 4 last.toNat ++ (le 1 pos.toNat ++ q))))).drop 16 = le 1 pos.toNat ++ q := by
    rw [show 16 = 12 + 4 from rfl, ← List.drop_drop, d12, List.drop_left' (le_length _ _)]
  rw [c0, d4, d8, d12, d16, List.take_left' (le_length _ _), List.take_left' (le_length _ _), List.take_left' (le_length _ _), List.take_left' (le_length _ _)]
  rw [num_le4 h1, num_le4 h2, num_le4 h3, num_le4 h4, num_le1 h5]

/-- A right anchor. -/
def Good (z d s l : Int) (a : Anc) : Prop := AncOk z d s l (labE a.lab.data.toList) a
theorem good_b {z d s l n : Int} {a : Anc} (ho : Ok z d s l n) (h : Good z d s l a) : AncB z.toNat d.toNat a := by
  obtain ⟨o1, o2, o3, o4, -⟩ := ho
  obtain ⟨h1, h2, h3, h4, h5, h6, h7, h8, h9⟩ := h
  refine ⟨by omega, by omega, by omega, by omega, by omega, h7, by omega, fun x hx => ?_⟩
  obtain ⟨g1, g2, g3, g4⟩ := h9 x hx
  refine ⟨by omega, fun p hp => ?_, by omega, by omega, by omega⟩
  obtain ⟨i, hi, rfl⟩ := List.getElem_of_mem hp
  have := (g4 i hi).1
  omega
theorem good_inj {z d s l n : Int} {a a' : Anc} (ho : Ok z d s l n) (h : Good z d s l a) (h' : Good z d s l a') {r r' : List UInt8} (he : encA a ++ r = encA a' ++ r') : a = a' ∧ r = r' := by
  have h1 := parsed_of (good_b ho h) r
  rw [he, parsed_of (good_b ho h') r'] at h1
  simp only [Option.some.injEq, Prod.mk.injEq] at h1
  exact ⟨h1.1.symm, h1.2.symm⟩
theorem good_enc {z d s l n : Int} {a a' : Anc} (ho : Ok z d s l n) (h : Good z d s l a) (h' : Good z d s l a') : encA a = encA a' ↔ a = a' :=
  ⟨fun e => (good_inj ho h h' (r := []) (r' := []) (by rw [e])).1, fun e => by rw [e]⟩
theorem encA_len {Z D : Nat} {a : Anc} (h : AncB Z D a) : (encA a).length = 18 + a.lab.size + Z * (D + 6) := by
  obtain ⟨-, -, -, -, -, -, h7, h8⟩ := h
  unfold encA encT
  rw [List.length_append, List.length_append, encN_len, encL_len, encHs_length (D := D) fun x hx => (h8 x hx).1, h7, size_list]
  omega
end Go.Proofs.YtkpbfhjpmhgmoaaDoor.anc
