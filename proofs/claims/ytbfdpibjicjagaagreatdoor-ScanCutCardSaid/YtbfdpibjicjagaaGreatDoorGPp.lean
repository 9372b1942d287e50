/-
  The two copies of a record as plain data: what a reading says, whether a record is the one that is looked for, what both copies come to. Plain mathematics; no condition beyond each theorem's own.
  What the laws of package pair ask of its functions. Conditions: none (a list of conditions, 'Cpr').
  A record's eight cells, written over: what stays. Conditions: none.
-/
import Derived.Test.YtbfdpibjicjagaaGreatDoorGRc
import Derived.Test.YtbfdpibjicjagaaGreatDoorGSl
import Derived.Test.YtbfdpibjicjagaaGreatDoorGAm
import Derived.Test.YtbfdpibjicjagaaGreatDoorAnF
import Derived.Laws.Tables
namespace Go.Proofs.YtbfdpibjicjagaaGreatDoor.prr
open Go.RowKit Go.Lib
open Go.Proofs.YtbfdpibjicjagaaGreatDoor.gmt (Ok)
open Go.Proofs.YtbfdpibjicjagaaGreatDoor.lrc (Rcd RcR noRec RdOk RecOk recN encR SlotOk cellN rdOk_of recN_of encR_short Head)
open Go.Proofs.YtbfdpibjicjagaaGreatDoor.sel (opened opened_enc enc enc_length opened_flipped enc_whole)
open Go.Proofs.YtbfdpibjicjagaaGreatDoor.crc (TurnedAll)
def SayOk (z d e : Int) (b : List UInt8) (addr : Nat) : Prop := e = 0 ∧ (opened b).err = 0 ∧ (opened b).addr = addr ∧ RdOk z d (opened b).load ∧ (recN (opened b).load).sq = ((opened b).stamp : Int)
def sayR (b : List UInt8) : Rcd := recN (opened b).load
def OneR (r : Rcd) (ep last sq at' of left : Int) : Prop := r.kd ≠ 0 ∧ r.sq = sq ∧ r.ps = at' ∧ (of ≠ 0 → r.nm = of) ∧ (of = 0 → r.nm ≤ left) ∧ (r.ep = ep ∨ sq ≤ last ∧ r.ep ≤ ep)
def pickR (c : Bool) (r : Rcd) : Rcd := if c = true then r else noRec
def lookR (o1 o2 : Bool) (r1 r2 : Rcd) : Rcd := if o1 = true then r1 else if o2 = true then r2 else noRec
def lookW (o1 o2 : Bool) : List Int := if o1 = true then (if o2 = true then [] else [1]) else if o2 = true then [0] else []
def lookH (c1 c2 o1 o2 : Bool) : Int := if (o1 || o2) = true then 1 else if (c1 || c2) = true then 2 else 3
theorem recOk_sq {z d : Int} {r : Rcd} (h : RecOk z d r) : 0 ≤ r.sq ∧ r.sq ≤ 4294967295 := by
 rcases h with ⟨-, h, -⟩ | ⟨h, -⟩ | ⟨h, -⟩
 ·omega
 ·exact h.1
 ·exact h.1
theorem say_made {z d : Int} {r : Rcd} {addr : Nat} (h : RecOk z d r) (hz : z ≤ 4) (hd : 1 ≤ d ∧ d ≤ 4) (ha : addr < 65536) : SayOk z d 0 (enc addr r.sq.toNat (encR r)) addr ∧ sayR (enc addr r.sq.toNat (encR r)) = r := by
 have h1 := recOk_sq h
 have h2 := encR_short h hd
 have h3 := opened_enc (l := encR r) ha (show r.sq.toNat < 4294967296 by omega) (by omega)
 unfold SayOk sayR
 rw [h3]
 refine ⟨⟨rfl, rfl, rfl, rdOk_of h hz hd, ?_⟩, (recN_of h hz hd).1⟩
 show (recN (encR r)).sq = ((r.sq.toNat : Nat) : Int)
 rw [(recN_of h hz hd).1]
 omega
theorem say_err {z d e : Int} {b : List UInt8} {addr : Nat} (he : e ≠ 0) : ¬ SayOk z d e b addr := fun h => he h.1
theorem say_turned {z d e : Int} {r : Rcd} {addr' p X : Nat} {addr : Nat} {out : List UInt8} (h : RecOk z d r) (hd : 1 ≤ d ∧ d ≤ 4) (ht : TurnedAll (enc addr r.sq.toNat (encR r)) out p X) (hp : p < 8 * (enc addr r.sq.toNat (encR r)).length) (hX : X < 4294967296) (ho : X % 2 = 1) : ¬ SayOk z d e out addr' := fun hs => by
 have h2 := encR_short h hd
 have h4 := enc_length addr r.sq.toNat (encR r)
 have h3 := opened_flipped (enc_whole addr r.sq.toNat (encR r)) (by omega) (by omega) ht hp hX ho
 have h1 := hs.2.1
 rw [h3] at h1
 cases h1
theorem cell_lt {z d s l a cp sl : Int} (ho : Ok z d s l a) (h : SlotOk l cp sl) : cellN l a cp sl < 65536 := by
 obtain ⟨-, -, -, o4, o5⟩ := ho
 obtain ⟨h1, h2, h3⟩ := h
 unfold cellN
 rcases h1 with rfl | rfl <;> omega
end Go.Proofs.YtbfdpibjicjagaaGreatDoor.prr
namespace Go.Proofs.YtbfdpibjicjagaaGreatDoor.prr
open Go.RowKit Go.Lib
open Go.Proofs.YtbfdpibjicjagaaGreatDoor.gmt (Ok)
open Go.Proofs.YtbfdpibjicjagaaGreatDoor.anc (AV bl kal kst ks bm ka)
open Go.Proofs.YtbfdpibjicjagaaGreatDoor.lrc (Rcd RcR noRec RdOk RecOk recN encR SlotOk cellN)
open Go.Proofs.YtbfdpibjicjagaaGreatDoor.img (BIn ImR)
def RLies (w : World) (r : Rcd) (X : Option Addr) (c : Nat) : Prop := Sl w w.heap.size X r.l ∧ r.l.length ≤ c ∧ c ≤ maxLen
theorem RLies.next {w w' : World} {r : Rcd} {X : Option Addr} {c : Nat} (h : RLies w r X c) (hb : Below w.heap.size w w') : RLies w' r X c := ⟨h.1.next hb, h.2⟩
def LookA (base : Nat) (r : Rcd) (ws : List Int) (how v : Int) (e : Ending) (w' : World) : Prop := ∃ (X : Option Addr) (xc : Nat) (V : Option Addr) (vc : Nat), e = .returned (.tuple #[.agg #[.int .i64 r.kd, .int .i64 r.sq, .int .i64 r.ep, .int .i64 r.ps, .int .i64 r.nm, .int .i64 r.z, .int .i64 r.wh, .slice X r.l.length xc], .slice V ws.length vc, .int .i64 how, .int .i64 v]) ∧ RLies w' r X xc ∧ OwnV w' base 3 (.slice V ws.length vc) (ints ws)
def SayB (base : Nat) (c : Bool) (r : Rcd) (e : Ending) (w' : World) : Prop := ∃ (X : Option Addr) (xc : Nat), e = .returned (.tuple #[.agg #[.int .i64 r.kd, .int .i64 r.sq, .int .i64 r.ep, .int .i64 r.ps, .int .i64 r.nm, .int .i64 r.z, .int .i64 r.wh, .slice X r.l.length xc], .bool c]) ∧ Own w' base 5 (.slice X r.l.length xc) r.l
def LookO (base : Nat) (r : Rcd) (ws : List Int) (how v : Int) (e : Ending) (w' : World) : Prop := ∃ (X : Option Addr) (xc : Nat) (V : Option Addr) (vc : Nat), e = .returned (.tuple #[.agg #[.int .i64 r.kd, .int .i64 r.sq, .int .i64 r.ep, .int .i64 r.ps, .int .i64 r.nm, .int .i64 r.z, .int .i64 r.wh, .slice X r.l.length xc], .slice V ws.length vc, .int .i64 how, .int .i64 v]) ∧ Own w' base 5 (.slice X r.l.length xc) r.l ∧ OwnV w' base 3 (.slice V ws.length vc) (ints ws)
structure Gt where
 e : Int
 A : Option Addr
 c : Nat
 l : List UInt8
structure Gt.In (w : World) (B : Nat) (g : Gt) : Prop where
 h : Sl w B g.A g.l
 l : g.l.length ≤ g.c ∧ g.c ≤ maxLen ∧ g.l.length ≤ 1048576
section
variable {w w' : World} {B B' : Nat} {g : Gt}
theorem Gt.In.below (h : Gt.In w B g) (hb : Below B w w') : Gt.In w' B g := ⟨h.h.below hb, h.l⟩
theorem Gt.In.more (h : Gt.In w B g) (hB : B ≤ B') : Gt.In w B' g := ⟨h.h.more hB, h.l⟩
theorem Gt.In.next (h : Gt.In w w.heap.size g) (hb : Below w.heap.size w w') : Gt.In w' w'.heap.size g := (h.below hb).more hb.size
end
end Go.Proofs.YtbfdpibjicjagaaGreatDoor.prr
namespace Go.Proofs.YtbfdpibjicjagaaGreatDoor.prr
open Go.RowKit Go.Lib
open Go.Proofs.YtbfdpibjicjagaaGreatDoor.anc (bl kal kst ks bm ka)
open Go.Proofs.YtbfdpibjicjagaaGreatDoor.lrc (Rcd RcR C8 c8_new F8)
theorem f8_rowW {W : World} {g : Nat} {a0 a1 a2 a3 a4 a5 a6 a7 : Value} {t : TypeId} (h : W.heap[g]? = some (.cells #[a0, a1, a2, a3, a4, a5, a6, a7] t (0, 0))) : F8 W g a0 a1 a2 a3 a4 a5 a6 a7 := by
 refine ⟨?_, fun o => frozen_of_row W g o _ t h⟩
 constructor <;> (rw [cell_of_row _ _ _ _ _ _ h]; rfl)
theorem blk_far {W W' : World} {B : Nat} {v : Obj} {k : Nat} (hb : Below B W W') (hk : k < B) (h : W.heap[k]? = some v) : W'.heap[k]? = some v := (hb.block k hk).trans h
theorem cell_xx {W : World} {g o o' : Nat} (v : Value) (h : o' ≠ o) : (W.setCell ⟨g, o, none⟩ v).cell? ⟨g, o', none⟩ = W.cell? ⟨g, o', none⟩ := World.cell?_setCell_other _ _ _ _ (by simp only [ne_eq, Addr.mk.injEq, not_and]; intro _ e; exact absurd e.symm (by omega))
theorem c8_all {W : World} {g : Nat} {a0 a1 a2 a3 a4 a5 a6 a7 : Value} (h : C8 W g a0 a1 a2 a3 a4 a5 a6 a7) (b0 b1 b2 b3 b4 b5 b6 b7 : Value) : C8 ((((((((W.setCell ⟨g, 0, none⟩ b0).setCell ⟨g, 1, none⟩ b1).setCell ⟨g, 2, none⟩ b2).setCell ⟨g, 3, none⟩ b3).setCell ⟨g, 4, none⟩ b4).setCell ⟨g, 5, none⟩ b5).setCell ⟨g, 6, none⟩ b6).setCell ⟨g, 7, none⟩ b7) g b0 b1 b2 b3 b4 b5 b6 b7 :=
 ⟨((cell_xx b7 (show 0 ≠ 7 by decide)).trans ((cell_xx b6 (show 0 ≠ 6 by decide)).trans ((cell_xx b5 (show 0 ≠ 5 by decide)).trans ((cell_xx b4 (show 0 ≠ 4 by decide)).trans ((cell_xx b3 (show 0 ≠ 3 by decide)).trans ((cell_xx b2 (show 0 ≠ 2 by decide)).trans ((cell_xx b1 (show 0 ≠ 1 by decide)).trans (World.cell?_setCell_same W ⟨g, 0, none⟩ b0 h.c0)))))))), ((cell_xx b7 (show 1 ≠ 7 by decide)).trans ((cell_xx b6 (show 1 ≠ 6 by decide)).trans ((cell_xx b5 (show 1 ≠ 5 by decide)).trans ((cell_xx b4 (show 1 ≠ 4 by decide)).trans ((cell_xx b3 (show 1 ≠ 3 by decide)).trans ((cell_xx b2 (show 1 ≠ 2 by decide)).trans (World.cell?_setCell_same (W.setCell ⟨g, 0, none⟩ b0) ⟨g, 1, none⟩ b1 ((cell_xx b0 (show 1 ≠ 0 by decide)).trans h.c1)))))))), ((cell_xx b7 (show 2 ≠ 7 by decide)).trans ((cell_xx b6 (show 2 ≠ 6 by decide)).trans ((cell_xx b5 (show 2 ≠ 5 by decide)).trans ((cell_xx b4 (show 2 ≠ 4 by decide)).trans ((cell_xx b3 (show 2 ≠ 3 by decide)).trans (World.cell?_setCell_same ((W.setCell ⟨g, 0, none⟩ b0).setCell ⟨g, 1, none⟩ b1) ⟨g, 2, none⟩ b2 ((cell_xx b1 (show 2 ≠ 1 by decide)).trans ((cell_xx b0 (show 2 ≠ 0 by decide)).trans h.c2)))))))), ((cell_xx b7 (show 3 ≠ 7 by decide)).trans ((cell_xx b6 (show 3 ≠ 6 by decide)).trans ((cell_xx b5 (show 3 ≠ 5 by decide)).trans ((cell_xx b4 (show 3 ≠ 4 by decide)).trans (World.cell?_setCell_same (((W.setCell ⟨g, 0, none⟩ b0).setCell ⟨g, 1, none⟩ b1).setCell ⟨g, 2, none⟩ b2) ⟨g, 3, none⟩ b3 ((cell_xx b2 (show 3 ≠ 2 by decide)).trans ((cell_xx b1 (show 3 ≠ 1 by decide)).trans ((cell_xx b0 (show 3 ≠ 0 by decide)).trans h.c3)))))))), ((cell_xx b7 (show 4 ≠ 7 by decide)).trans ((cell_xx b6 (show 4 ≠ 6 by decide)).trans ((cell_xx b5 (show 4 ≠ 5 by decide)).trans (World.cell?_setCell_same ((((W.setCell ⟨g, 0, none⟩ b0).setCell ⟨g, 1, none⟩ b1).setCell ⟨g, 2, none⟩ b2).setCell ⟨g, 3, none⟩ b3) ⟨g, 4, none⟩ b4 ((cell_xx b3 (show 4 ≠ 3 by decide)).trans ((cell_xx b2 (show 4 ≠ 2 by decide)).trans ((cell_xx b1 (show 4 ≠ 1 by decide)).trans ((cell_xx b0 (show 4 ≠ 0 by decide)).trans h.c4)))))))), ((cell_xx b7 (show 5 ≠ 7 by decide)).trans ((cell_xx b6 (show 5 ≠ 6 by decide)).trans (World.cell?_setCell_same (((((W.setCell ⟨g, 0, none⟩ b0).setCell ⟨g, 1, none⟩ b1).setCell ⟨g, 2, none⟩ b2).setCell ⟨g, 3, none⟩ b3).setCell ⟨g, 4, none⟩ b4) ⟨g, 5, none⟩ b5 ((cell_xx b4 (show 5 ≠ 4 by decide)).trans ((cell_xx b3 (show 5 ≠ 3 by decide)).trans ((cell_xx b2 (show 5 ≠ 2 by decide)).trans ((cell_xx b1 (show 5 ≠ 1 by decide)).trans ((cell_xx b0 (show 5 ≠ 0 by decide)).trans h.c5)))))))), ((cell_xx b7 (show 6 ≠ 7 by decide)).trans (World.cell?_setCell_same ((((((W.setCell ⟨g, 0, none⟩ b0).setCell ⟨g, 1, none⟩ b1).setCell ⟨g, 2, none⟩ b2).setCell ⟨g, 3, none⟩ b3).setCell ⟨g, 4, none⟩ b4).setCell ⟨g, 5, none⟩ b5) ⟨g, 6, none⟩ b6 ((cell_xx b5 (show 6 ≠ 5 by decide)).trans ((cell_xx b4 (show 6 ≠ 4 by decide)).trans ((cell_xx b3 (show 6 ≠ 3 by decide)).trans ((cell_xx b2 (show 6 ≠ 2 by decide)).trans ((cell_xx b1 (show 6 ≠ 1 by decide)).trans ((cell_xx b0 (show 6 ≠ 0 by decide)).trans h.c6)))))))), (World.cell?_setCell_same (((((((W.setCell ⟨g, 0, none⟩ b0).setCell ⟨g, 1, none⟩ b1).setCell ⟨g, 2, none⟩ b2).setCell ⟨g, 3, none⟩ b3).setCell ⟨g, 4, none⟩ b4).setCell ⟨g, 5, none⟩ b5).setCell ⟨g, 6, none⟩ b6) ⟨g, 7, none⟩ b7 ((cell_xx b6 (show 7 ≠ 6 by decide)).trans ((cell_xx b5 (show 7 ≠ 5 by decide)).trans ((cell_xx b4 (show 7 ≠ 4 by decide)).trans ((cell_xx b3 (show 7 ≠ 3 by decide)).trans ((cell_xx b2 (show 7 ≠ 2 by decide)).trans ((cell_xx b1 (show 7 ≠ 1 by decide)).trans ((cell_xx b0 (show 7 ≠ 0 by decide)).trans h.c7))))))))⟩
theorem below_8 {B g : Nat} {A W : World} (h : Below B A W) (hg : B ≤ g) (b0 b1 b2 b3 b4 b5 b6 b7 : Value) : Below B A ((((((((W.setCell ⟨g, 0, none⟩ b0).setCell ⟨g, 1, none⟩ b1).setCell ⟨g, 2, none⟩ b2).setCell ⟨g, 3, none⟩ b3).setCell ⟨g, 4, none⟩ b4).setCell ⟨g, 5, none⟩ b5).setCell ⟨g, 6, none⟩ b6).setCell ⟨g, 7, none⟩ b7) :=
 (((((((h.setCell (p := ⟨g, 0, none⟩) hg b0).setCell (p := ⟨g, 1, none⟩) hg b1).setCell (p := ⟨g, 2, none⟩) hg b2).setCell (p := ⟨g, 3, none⟩) hg b3).setCell (p := ⟨g, 4, none⟩) hg b4).setCell (p := ⟨g, 5, none⟩) hg b5).setCell (p := ⟨g, 6, none⟩) hg b6).setCell (p := ⟨g, 7, none⟩) hg b7
theorem heap_8 {W : World} {g k : Nat} (hk : k ≠ g) (b0 b1 b2 b3 b4 b5 b6 b7 : Value) : ((((((((W.setCell ⟨g, 0, none⟩ b0).setCell ⟨g, 1, none⟩ b1).setCell ⟨g, 2, none⟩ b2).setCell ⟨g, 3, none⟩ b3).setCell ⟨g, 4, none⟩ b4).setCell ⟨g, 5, none⟩ b5).setCell ⟨g, 6, none⟩ b6).setCell ⟨g, 7, none⟩ b7).heap[k]? = W.heap[k]? := by
 rw [heap_setCell_other _ ⟨g, 7, none⟩ k b7 hk, heap_setCell_other _ ⟨g, 6, none⟩ k b6 hk, heap_setCell_other _ ⟨g, 5, none⟩ k b5 hk, heap_setCell_other _ ⟨g, 4, none⟩ k b4 hk, heap_setCell_other _ ⟨g, 3, none⟩ k b3 hk, heap_setCell_other _ ⟨g, 2, none⟩ k b2 hk, heap_setCell_other _ ⟨g, 1, none⟩ k b1 hk, heap_setCell_other _ ⟨g, 0, none⟩ k b0 hk]
theorem f8_all {W : World} {g : Nat} {a0 a1 a2 a3 a4 a5 a6 a7 : Value} (h : F8 W g a0 a1 a2 a3 a4 a5 a6 a7) : W.frozen? ⟨g, 0, none⟩ = false ∧ W.frozen? ⟨g, 1, none⟩ = false ∧ W.frozen? ⟨g, 2, none⟩ = false ∧ W.frozen? ⟨g, 3, none⟩ = false ∧ W.frozen? ⟨g, 4, none⟩ = false ∧ W.frozen? ⟨g, 5, none⟩ = false ∧ W.frozen? ⟨g, 6, none⟩ = false ∧ W.frozen? ⟨g, 7, none⟩ = false := ⟨h.f 0, h.f 1, h.f 2, h.f 3, h.f 4, h.f 5, h.f 6, h.f 7⟩
theorem ownv_8 {W : World} {base g : Nat} {e : TypeId} {v : Value} {vs : List Value} (h : OwnV W base e v vs) (hg : g < base) (b0 b1 b2 b3 b4 b5 b6 b7 : Value) : OwnV ((((((((W.setCell ⟨g, 0, none⟩ b0).setCell ⟨g, 1, none⟩ b1).setCell ⟨g, 2, none⟩ b2).setCell ⟨g, 3, none⟩ b3).setCell ⟨g, 4, none⟩ b4).setCell ⟨g, 5, none⟩ b5).setCell ⟨g, 6, none⟩ b6).setCell ⟨g, 7, none⟩ b7) base e v vs := by
 have hne : v.ownBlock ≠ some g := fun k => by have := (World.ownsRow.lt h g k).1; omega
 exact ownsRow_setCell_other (ownsRow_setCell_other (ownsRow_setCell_other (ownsRow_setCell_other (ownsRow_setCell_other (ownsRow_setCell_other (ownsRow_setCell_other (ownsRow_setCell_other h hne b0) hne b1) hne b2) hne b3) hne b4) hne b5) hne b6) hne b7
end Go.Proofs.YtbfdpibjicjagaaGreatDoor.prr
