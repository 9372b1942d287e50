/-
  What PlaceApart needs: an anchor whose memory two blocks are no part of; the places of a zone as they are met; triples. Conditions: none.
-/
import Derived.Test.YthbjfpgcinmjiaaDoorPlN
import Derived.Test.YthbjfpgcinmjiaaDoorGmQ
import Derived.Test.YthbjfpgcinmjiaaDoorPlArg
namespace Go.Proofs.YthbjfpgcinmjiaaDoor.plc
open Go.RowKit Go.Lib
open Go.Proofs.YthbjfpgcinmjiaaDoor.gmt (Ok tab bump)
open Go.Proofs.YthbjfpgcinmjiaaDoor.anc
open Go.Proofs.YthbjfpgcinmjiaaDoor.lbl (ValidOk CloneOk Tabs)

theorem slv_from {w w' : World} {B base : Nat} {A : Option Addr} {vs : List Value} (h : SlV w B A vs) (hA : ∀ a, A = some a → base ≤ a.block) (hk : ∀ b o, base ≤ b → b < B → w'.cell? ⟨b, o, none⟩ = w.cell? ⟨b, o, none⟩) : SlV w' B A vs := fun hl => by
  obtain ⟨b, off, e, hb, hc⟩ := h hl
  exact ⟨b, off, e, hb, fun j hj => (hk b _ (hA _ e) hb).trans (hc j hj)⟩
/-- An anchor whose memory the blocks gA, gH are no part of. -/
def Off (W : World) (gA gH : Nat) (X : AV) : Prop := ∀ (W' : World) (B' : Nat), (∀ b o, b ≠ gA → b ≠ gH → b < W.heap.size → W'.cell? ⟨b, o, none⟩ = W.cell? ⟨b, o, none⟩) → W.heap.size ≤ B' → X.In W' B'
section
variable {W W2 : World} {gA gH : Nat} {X : AV}
theorem Off.inn (h : Off W gA gH X) : X.In W W.heap.size := h W _ (fun _ _ _ _ _ => rfl) (Nat.le_refl _)
theorem Off.below (h : Off W gA gH X) (hb : Below W.heap.size W W2) : Off W2 gA gH X := fun W' B' hk hB => h W' B' (fun b o h1 h2 h3 => (hk b o h1 h2 (Nat.lt_of_lt_of_le h3 hb.size)).trans (hb.cell (p := ⟨b, o, none⟩) h3)) (Nat.le_trans hb.size hB)
theorem Off.set (h : Off W gA gH X) {g : Nat} (hg : g = gA ∨ g = gH) (o : Nat) (v : Value) : Off (W.setCell ⟨g, o, none⟩ v) gA gH X := fun W' B' hk hB => by
  refine h W' B' (fun b q h1 h2 h3 => ?_) (by simpa using hB)
  rw [hk b q h1 h2 (by simpa using h3), World.cell?_setCell_other]
  intro e
  have := congrArg Addr.block e
  dsimp only at this
  omega
theorem off_own {base : Nat} (h : X.Own W base) (hA : gA < base) (hH : gH < base) : Off W gA gH X := fun W' B' hk hB => by
  have hin := h.inn
  have hk' : ∀ b o, base ≤ b → b < W.heap.size → W'.cell? ⟨b, o, none⟩ = W.cell? ⟨b, o, none⟩ := fun b o h1 h2 => hk b o (by omega) (by omega) h2
  refine ⟨(slv_from hin.hh (fun a ha => (World.ownsRow.lt h.1 a.block (by rw [ha]; rfl)).1) hk').more hB, fun r hr => ?_, hin.hl⟩
  obtain ⟨p1, p2⟩ := hin.hi r hr
  exact ⟨(slv_from p1 (fun a ha => (own_ge (h.2 r hr) a ha).1) hk').more hB, p2⟩
theorem off_old {B : Nat} (h : X.In W B) (hA : B ≤ gA) (hH : B ≤ gH) (hB : B ≤ W.heap.size) : Off W gA gH X := fun W' B' hk hB' => by
  have hk' : ∀ b o, b < B → W'.cell? ⟨b, o, none⟩ = W.cell? ⟨b, o, none⟩ := fun b o h1 => hk b o (by omega) (by omega) (by omega)
  exact ⟨(h.hh.keep hk').more (by omega), fun r hr => ⟨((h.hi r hr).1.keep hk').more (by omega), (h.hi r hr).2⟩, h.hl⟩
theorem Off.set7 (h : Off W gA gH X) {g : Nat} (hg : g = gA ∨ g = gH) (v0 v1 v2 v3 v4 v5 v6 : Value) : Off (((((((W.setCell ⟨g, 0, none⟩ v0).setCell ⟨g, 1, none⟩ v1).setCell ⟨g, 2, none⟩ v2).setCell ⟨g, 3, none⟩ v3).setCell ⟨g, 4, none⟩ v4).setCell ⟨g, 5, none⟩ v5).setCell ⟨g, 6, none⟩ v6) gA gH X :=
  ((((((h.set hg 0 v0).set hg 1 v1).set hg 2 v2).set hg 3 v3).set hg 4 v4).set hg 5 v5).set hg 6 v6
theorem g5_set7 {z d s l a : Int} {g k : Nat} (h : G5 W g z d s l a) (hne : g ≠ k) (v0 v1 v2 v3 v4 v5 v6 : Value) : G5 (((((((W.setCell ⟨k, 0, none⟩ v0).setCell ⟨k, 1, none⟩ v1).setCell ⟨k, 2, none⟩ v2).setCell ⟨k, 3, none⟩ v3).setCell ⟨k, 4, none⟩ v4).setCell ⟨k, 5, none⟩ v5).setCell ⟨k, 6, none⟩ v6) g z d s l a :=
  ((((((h.set hne (o := 0) v0).set hne (o := 1) v1).set hne (o := 2) v2).set hne (o := 3) v3).set hne (o := 4) v4).set hne (o := 5) v5).set hne (o := 6) v6
theorem ownV_set7 {base k : Nat} {e : TypeId} {v : Value} {vs : List Value} (h : OwnV W base e v vs) (hk : v.ownBlock ≠ some k) (v0 v1 v2 v3 v4 v5 v6 : Value) : OwnV (((((((W.setCell ⟨k, 0, none⟩ v0).setCell ⟨k, 1, none⟩ v1).setCell ⟨k, 2, none⟩ v2).setCell ⟨k, 3, none⟩ v3).setCell ⟨k, 4, none⟩ v4).setCell ⟨k, 5, none⟩ v5).setCell ⟨k, 6, none⟩ v6) base e v vs :=
  ownsRow_setCell_other (ownsRow_setCell_other (ownsRow_setCell_other (ownsRow_setCell_other (ownsRow_setCell_other (ownsRow_setCell_other (ownsRow_setCell_other h hk v0) hk v1) hk v2) hk v3) hk v4) hk v5) hk v6
end

/-- How many spares of each zone were had. -/
def Had (d : Int) (X : Anc) (f : Nat → Int) : Prop := ∀ j h, X.hs[j]? = some h → f j = h.nx - (d + 1)
theorem had_first {z d : Int} {lab : ByteArray} : Had d (firstA z d lab) (fun _ => 0) := fun j h hj => by
  have hm := List.mem_of_getElem? hj
  obtain rfl := List.eq_of_mem_replicate hm
  show (0 : Int) = d + 1 - (d + 1)
  omega
theorem had_step {d : Int} {X Y : Anc} {f : Nat → Int} {J : Nat} {h h' : Hom} (hf : Had d X f) (hJ : X.hs[J]? = some h) (hY : Y.hs[J]? = some h') (hn : h'.nx = h.nx + 1) (hO : ∀ k, k ≠ J → Y.hs[k]? = X.hs[k]?) : Had d Y (bump f J) := fun j q hj => by
  by_cases e : j = J
  · subst e
    rw [hY] at hj
    obtain rfl := Option.some.inj hj
    have h1 := hf j h hJ
    show (if _ then _ else _) = _
    simp
    omega
  · rw [hO j e] at hj
    have h1 := hf j q hj
    show (if _ then _ else _) = _
    simp [e, h1]
/-- The address that is met k-th of a zone: the parity's first. -/
def mp (z d s l a J : Int) (h : Hom) (D k : Nat) : Int := slotA z d s l a J (h.ps.getD (if k = 0 then D else k - 1) 0)
def mps (z d s l a J : Int) (h : Hom) (D t : Nat) : List Int := (List.range t).map (mp z d s l a J h D)
theorem mps_length (z d s l a J : Int) (h : Hom) (D t : Nat) : (mps z d s l a J h D t).length = t := by simp [mps]
theorem mps_next (z d s l a J : Int) (h : Hom) (D t : Nat) : ints (mps z d s l a J h D t) ++ [.int .i64 (mp z d s l a J h D t)] = ints (mps z d s l a J h D (t + 1)) := by simp [mps, ints, List.range_succ]
theorem mps_get (z d s l a J : Int) (h : Hom) (D t k : Nat) (hk : k < (ints (mps z d s l a J h D t)).length) : (ints (mps z d s l a J h D t))[k] = .int .i64 (mp z d s l a J h D k) := by simp [ints, mps]
section
variable {z d s l a J : Int} {h : Hom} {D k t : Nat}
theorem mp_at (hh : HomeOk d s h) (hD : d = (D : Int)) (ht : t ≤ D) : ∃ i p : _, atP d ((t : Int) - 1) = ((i : Nat) : Int) ∧ h.ps[i]? = some p ∧ mp z d s l a J h D t = slotA z d s l a J p ∧ 0 ≤ p ∧ p ≤ d + s ∧ i = if t = 0 then D else t - 1 := by
  obtain ⟨k1, k2, k3, k4⟩ := hh
  have hi : (if t = 0 then D else t - 1) < h.ps.length := by split <;> omega
  have := (k4 _ hi).1
  refine ⟨if t = 0 then D else t - 1, h.ps[if t = 0 then D else t - 1], ?_, List.getElem?_eq_getElem hi, ?_, by omega, by omega, rfl⟩
  · unfold atP
    by_cases e : t = 0
    · subst e; rw [if_pos (by omega), if_pos rfl]; exact hD
    · rw [if_neg (by omega), if_neg e]; omega
  · unfold mp
    rw [List.getD_eq_getElem?_getD, List.getElem?_eq_getElem hi]
    rfl
theorem mp_ne (hh : HomeOk d s h) (hD : d = (D : Int)) (ht : t ≤ D) (hk : k < t) : mp z d s l a J h D k ≠ mp z d s l a J h D t := by
  obtain ⟨k1, k2, k3, k4⟩ := id hh
  obtain ⟨i, p, -, hp, e1, -, -, hi⟩ := mp_at (z := z) (l := l) (a := a) (J := J) hh hD ht
  obtain ⟨q, r, -, hr, e2, -, -, hq⟩ := mp_at (z := z) (l := l) (a := a) (J := J) hh hD (show k ≤ D by omega)
  have hne : q ≠ i := by rw [hi, hq]; split <;> split <;> omega
  obtain ⟨hil, rfl⟩ := List.getElem?_eq_some_iff.1 hp
  obtain ⟨hql, rfl⟩ := List.getElem?_eq_some_iff.1 hr
  have hpr : h.ps[q] ≠ h.ps[i] := by
    rcases Nat.lt_or_ge q i with c | c
    · exact (k4 i hil).2 q c
    · exact fun e => (k4 q hql).2 i (by omega) e.symm
  rw [e1, e2]
  unfold slotA
  omega
end
end Go.Proofs.YthbjfpgcinmjiaaDoor.plc
