/-
  What table a sealed cell says; readings that say none. Conditions: none.
-/
import Derived.Test.YtejfehkcjcohdaaEnE
namespace Go.Proofs.Ytejfehkcjcohdaa.ent
open Go.RowKit Go.Lib
open Go.Proofs.Ytejfehkcjcohdaa.gmt (Ok)
open Go.Proofs.Ytejfehkcjcohdaa.anc (bl kal kst ks bm ka)
open Go.Proofs.Ytejfehkcjcohdaa.sel (Three three_new Lies opened Opn no opened_err enc enc_opened open_any)
open Go.Proofs.Ytejfehkcjcohdaa.tbl (Ent EntOk entsN TV C1 c1_new G5 g5_new TbE)
open Go.Proofs.Ytejfehkcjcohdaa.tbl (RdT encT encT_length told_of)

/-- No table. -/
theorem no_table (z d s l a e addr root : Int) (X : Option Addr) (N x : Nat) (b : List UInt8) (w : World) (hN : b.length = N) (hx : N ≤ x) (hm : x ≤ maxLen) (hX : Sl w w.heap.size X b) (h : ¬ SayB e b addr root) :
    Calls Try.prog 11 #[.agg #[.int .i64 z, .int .i64 d, .int .i64 s, .int .i64 l, .int .i64 a], .agg #[.int .i64 e, .slice X N x], .int .i64 addr, .int .i64 root] w fun e w' => RdT w.heap.size [] false e w' ∧ Below w.heap.size w w' :=
  table_c false z d s l a e addr root X N x b w hN hx hm hX (iff_of_false Bool.false_ne_true fun k => h k.2.1)
/-- The table of a sealed cell. -/
theorem tcell_c (z d s l a A0 S0 addr root : Int) (es : List Ent) (X : Option Addr) (N x : Nat) (w : World) (ho : Ok z d s l a) (hg : tbl.Good d es) (ha : 0 ≤ A0 ∧ A0 < 65536) (hs : 0 ≤ S0 ∧ S0 < 4294967296) (hN : es.length * 9 + 11 = N) (hx : N ≤ x) (hm : x ≤ maxLen) (hX : Sl w w.heap.size X (enc A0.toNat S0.toNat (encT es))) (h1 : A0 = addr) (h2 : S0 = root) :
    Calls Try.prog 11 #[.agg #[.int .i64 z, .int .i64 d, .int .i64 s, .int .i64 l, .int .i64 a], .agg #[.int .i64 0, .slice X N x], .int .i64 addr, .int .i64 root] w fun e w' => RdT w.heap.size es true e w' ∧ Below w.heap.size w w' := by
  have o2 := ho.2.1
  have h96 : (encT es).length ≤ 96 := by rw [encT_length]; have := hg.1; omega
  obtain ⟨k1, k2⟩ := say_enc (addr := addr) (st := root) ha hs h96
  obtain ⟨t1, t2⟩ := told_of (d := d) (by omega) hg
  have h9 := table_c true z d s l a 0 addr root X N x _ w ((sel.enc_length _ _ _).trans (by rw [encT_length]; exact hN)) hx hm hX (iff_of_true rfl ⟨ho, k2.2 ⟨h1, h2⟩, by rw [k1]; exact t1⟩)
  rw [k1, t2] at h9
  exact h9
theorem no_say {A0 S0 addr root : Int} {l : List UInt8} (ha : 0 ≤ A0 ∧ A0 < 65536) (hs : 0 ≤ S0 ∧ S0 < 4294967296) (hl : l.length ≤ 96) (h : ¬ (A0 = addr ∧ S0 = root)) : ¬ SayB 0 (enc A0.toNat S0.toNat l) addr root := fun k => h ((say_enc ha hs hl).2.1 k)
end Go.Proofs.Ytejfehkcjcohdaa.ent
