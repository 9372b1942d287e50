/-
  The log as plain data: transactions, a right log, how many slots it has, whose a slot is, how many records blocks need. Plain mathematics; no condition beyond each theorem's own.
  Plain mathematics of the log: a right log bent is none; each slot is one's or nobody's. No condition beyond each theorem's own.
  Transactions as they lie in memory (four cells each: number, place, count, a slice of images), and of one's own. Conditions: each theorem's own.
  casematekeep.TwinTxns: a row of transactions of one's own. Conditions: fewer than 2^20 transactions, images and bytes.
  What the laws of package ring ask of its functions. Conditions: none (a list of conditions, 'Crg').
  The laws' own log (Log). Conditions: a right geometry, at most forty sizes.
  Plain facts of the laws' example of package ring. Conditions: none.
-/
import Derived.Test.YtbfdpibjicjagaaGreatDoorGRc
import Derived.Test.YtbfdpibjicjagaaGreatDoorGImg
import Derived.Test.YtbfdpibjicjagaaGreatDoorGRi
import Derived.Test.YtbfdpibjicjagaaGreatDoorTail
import Derived.Test.YtbfdpibjicjagaaGreatDoorGAu
import Derived.Test.YtbfdpibjicjagaaGreatDoorGTa
import Derived.Deep.CutRange
set_option maxHeartbeats 8000000
set_option maxRecDepth 100000
namespace Go.Proofs.YtbfdpibjicjagaaGreatDoor.rng
open Go.RowKit Go.Lib
open Go.Proofs.YtbfdpibjicjagaaGreatDoor.lrc (ImOk ImsOk)
structure Txd where
 sq : Int
 ps : Int
 nm : Int
 ims : List (Int × Int × List UInt8)
theorem Txd.eq_of {r q : Txd} (h0 : r.sq = q.sq) (h1 : r.ps = q.ps) (h2 : r.nm = q.nm) (h3 : r.ims = q.ims) : r = q := by
 cases r
 cases q
 simp only at h0 h1 h2 h3
 subst h0 h1 h2 h3
 rfl
def TxdOk (z d pos seq : Int) (x : Txd) : Prop := x.sq = seq ∧ seq ≤ 4294967295 ∧ x.ps = pos ∧ x.nm = (x.ims.length : Int) + 1 ∧ 2 ≤ x.nm ∧ ImsOk z d x.ims
def LogOk (z d l : Int) : Int → Int → Int → List Txd → Prop
 | _, _, _, [] => True
 | pos, seq, used, x :: t => TxdOk z d pos seq x ∧ used + x.nm ≤ l ∧ LogOk z d l ((pos + x.nm) % l) (seq + 1) (used + x.nm) t
def has (l s : Int) (x : Txd) : Prop := (0 ≤ x.ps ∧ x.ps ≤ l - 1) ∧ (0 ≤ x.nm ∧ x.nm ≤ l) ∧ (s - x.ps + l) % l < x.nm
instance (l s : Int) (x : Txd) : Decidable (has l s x) := by unfold has; infer_instance
def whoN (l s : Int) : Nat → List Txd → Option (Nat × Int)
 | _, [] => none
 | i, x :: t => if has l s x then some (i, (s - x.ps + l) % l) else whoN l s (i + 1) t
def imgX (z d : Int) (tb : List UInt8) (fill : UInt8) (i k : Nat) : Int × Int × List UInt8 :=
 if (i + k) % 4 = 3 then (((i + k : Nat) : Int) % z, 255, tb) else (((i + k : Nat) : Int) % z, ((i + 2 * k : Nat) : Int) % (d + 1) - 1, [fill, UInt8.ofNat i, UInt8.ofNat k, 1, 2, 3, 4, 5])
def imsX (z d : Int) (tb : List UInt8) (fill : UInt8) (i n : Nat) : List (Int × Int × List UInt8) := (List.range n).map (imgX z d tb fill i)
def cntX (y : Int) : Nat := 1 + ((IntKind.u64.wrap y).tmod 5).toNat
def logX (z d l : Int) (tb : List UInt8) (fill : UInt8) (sq : Int) : Nat → Int → Int → List Int → List Txd
 | _, _, _, [] => []
 | i, pos, used, y :: t => if l < used + cntX y + 1 then [] else ⟨sq + i, pos, cntX y + 1, imsX z d tb fill i (cntX y)⟩ :: logX z d l tb fill sq (i + 1) ((pos + cntX y + 1) % l) (used + cntX y + 1) t
theorem imsX_length (z d : Int) (tb : List UInt8) (fill : UInt8) (i n : Nat) : (imsX z d tb fill i n).length = n := by simp [imsX]
theorem cntX_le (y : Int) : 1 ≤ cntX y ∧ cntX y ≤ 5 := by
 unfold cntX
 have h1 := Int.tmod_nonneg 5 (wrap_nonneg y)
 have h2 := Int.tmod_lt_of_pos (IntKind.u64.wrap y) (show (0 : Int) < 5 by decide)
 omega
theorem imgX_ok {z d : Int} {tb : List UInt8} (hz : 1 ≤ z) (hd : 1 ≤ d ∧ d ≤ 4) (htb : tbl.Told d tb) (fill : UInt8) (i k : Nat) : ImOk z d (imgX z d tb fill i k).1 (imgX z d tb fill i k).2.1 (imgX z d tb fill i k).2.2 := by
 have h1 := Int.emod_nonneg ((i + k : Nat) : Int) (show z ≠ 0 by omega)
 have h2 := Int.emod_lt_of_pos ((i + k : Nat) : Int) (show 0 < z by omega)
 have h3 := Int.emod_nonneg ((i + 2 * k : Nat) : Int) (show d + 1 ≠ 0 by omega)
 have h4 := Int.emod_lt_of_pos ((i + 2 * k : Nat) : Int) (show 0 < d + 1 by omega)
 unfold imgX
 split
 ·exact ⟨⟨h1, by simp only; omega⟩, .inl ⟨rfl, htb⟩⟩
 ·exact ⟨⟨h1, by simp only; omega⟩, .inr ⟨by simp only; omega, ⟨by simp only; omega, by simp only; omega⟩, rfl⟩⟩
theorem imsX_ok {z d : Int} {tb : List UInt8} (hz : 1 ≤ z) (hd : 1 ≤ d ∧ d ≤ 4) (htb : tbl.Told d tb) (fill : UInt8) (i n : Nat) : ImsOk z d (imsX z d tb fill i n) := by
 intro x hx
 obtain ⟨k, -, rfl⟩ := List.mem_map.1 hx
 exact imgX_ok hz hd htb fill i k
theorem logX_ok {z d l : Int} {tb : List UInt8} (hz : 1 ≤ z) (hd : 1 ≤ d ∧ d ≤ 4) (htb : tbl.Told d tb) (fill : UInt8) (sq : Int) (ys : List Int) : ∀ (i : Nat) (pos used : Int), sq + i + ys.length ≤ 4294967295 → LogOk z d l pos (sq + i) used (logX z d l tb fill sq i pos used ys) := by
 induction ys with
 | nil => exact fun i pos used _ => trivial
 | cons y t ih =>
  intro i pos used hb
  rw [List.length_cons] at hb
  unfold logX
  have hc := cntX_le y
  split
  ·exact trivial
  ·refine ⟨⟨rfl, by omega, rfl, by show (cntX y : Int) + 1 = ((imsX z d tb fill i (cntX y)).length : Int) + 1; rw [imsX_length], by show 2 ≤ (cntX y : Int) + 1; omega, imsX_ok hz hd htb fill i _⟩, by show used + ((cntX y : Int) + 1) ≤ l; omega, ?_⟩
   have h9 := ih (i + 1) ((pos + cntX y + 1) % l) (used + cntX y + 1) (by omega)
   rw [show sq + ((i + 1 : Nat) : Int) = sq + i + 1 by omega] at h9
   rw [show pos + ((cntX y : Int) + 1) = pos + cntX y + 1 by omega, show used + ((cntX y : Int) + 1) = used + cntX y + 1 by omega]
   exact h9
end Go.Proofs.YtbfdpibjicjagaaGreatDoor.rng
namespace Go.Proofs.YtbfdpibjicjagaaGreatDoor.rng
open Go.RowKit Go.Lib
open Go.Proofs.YtbfdpibjicjagaaGreatDoor.lrc (ImOk ImsOk)
theorem LogOk.at {z d l : Int} (x' : Txd) (ts : List Txd) : ∀ (p s u : Int) (i : Nat) (hi : i < ts.length), LogOk z d l p s u ts → LogOk z d l p s u (ts.set i x') → ∃ P S, TxdOk z d P S ts[i] ∧ TxdOk z d P S x' := by
 induction ts with
 | nil => intro p s u i hi; cases hi
 | cons y t ih =>
  intro p s u i hi h h'
  cases i with
  | zero => exact ⟨p, s, h.1, h'.1⟩
  | succ j =>
   obtain ⟨P, S, h1, h2⟩ := ih _ _ _ j (by simpa using hi) h.2.2 h'.2.2
   exact ⟨P, S, h1, h2⟩
theorem LogOk.some {z d l : Int} (ts : List Txd) : ∀ (p s u : Int) (i : Nat) (hi : i < ts.length), LogOk z d l p s u ts → ts[i].ims ≠ [] ∧ 2 ≤ ts[i].nm := by
 induction ts with
 | nil => intro p s u i hi; cases hi
 | cons y t ih =>
  intro p s u i hi h
  cases i with
  | zero =>
   refine ⟨fun e => ?_, h.1.2.2.2.2.1⟩
   have h1 := h.1.2.2.2.1
   have h2 := h.1.2.2.2.2.1
   have e : y.ims = [] := e
   rw [e] at h1
   simp at h1
   omega
  | succ j => exact ih _ _ _ j (by simpa using hi) h.2.2
/-! How many below n. -/
def offN : List Txd → Nat → Int
 | [], _ => 0
 | _ :: _, 0 => 0
 | x :: t, j + 1 => x.nm + offN t j
def whoQ (q : Int) : Nat → Int → List Txd → Option (Nat × Int)
 | _, _, [] => none
 | i, u, x :: t => if q - u < x.nm then some (i, q - u) else whoQ q (i + 1) (u + x.nm) t
theorem offN_nonneg {z d l : Int} {ts : List Txd} {p s u : Int} (h : LogOk z d l p s u ts) (j : Nat) : 0 ≤ offN ts j := by
 induction ts generalizing p s u j with
 | nil => exact Int.le_refl 0
 | cons x t ih =>
  cases j with
  | zero => exact Int.le_refl 0
  | succ m =>
   have := ih h.2.2 m
   have := h.1.2.2.2.2.1
   rw [offN]
   omega
theorem whoN_Q {z d l pos s q : Int} (hl : 0 < l) (hq : q = (s - pos) % l) (ts : List Txd) : ∀ (i : Nat) (P S u : Int), P = (pos + u) % l → 0 ≤ u → u ≤ q → LogOk z d l P S u ts → whoN l s i ts = whoQ q i u ts := by
 have q0 := Int.emod_nonneg (s - pos) (show l ≠ 0 by omega)
 have q1 := Int.emod_lt_of_pos (s - pos) hl
 induction ts with
 | nil => intro i P S u _ _ _ _; rfl
 | cons x t ih =>
  intro i P S u hP hu huq h
  have hp := h.1.2.2.1
  have e : (s - x.ps + l) % l = q - u := by
   have e1 := Int.emod_add_mul_ediv (pos + u) l
   have e2 := Int.emod_add_mul_ediv (s - pos) l
   rw [← hP, ← hp] at e1
   rw [← hq] at e2
   have e3 : s - x.ps + l = (q - u) + l * ((s - pos) / l + (pos + u) / l + 1) := by
    rw [Int.mul_add, Int.mul_add, Int.mul_one]
    omega
   rw [e3, Int.add_mul_emod_self_left]
   exact Int.emod_eq_of_lt (by omega) (by omega)
  have hx := h.1.2.2.2.2.1
  have hb := h.2.1
  have p0 := Int.emod_nonneg (pos + u) (show l ≠ 0 by omega)
  have p1 := Int.emod_lt_of_pos (pos + u) hl
  rw [← hP, ← hp] at p0 p1
  unfold whoN whoQ
  by_cases c : q - u < x.nm
  ·rw [if_pos c, if_pos ⟨⟨p0, by omega⟩, ⟨by omega, by omega⟩, by rw [e]; exact c⟩, e]
  ·rw [if_neg c, if_neg fun g => c (by have := g.2.2; rw [e] at this; exact this)]
   refine ih (i + 1) _ (S + 1) (u + x.nm) ?_ (by omega) (by omega) h.2.2
   rw [hP, Int.emod_add_emod]
   congr 1
   omega
theorem whoQ_some {z d l q : Int} (ts : List Txd) : ∀ (i : Nat) (P S u : Int) (j : Nat) (k : Int), u ≤ q → LogOk z d l P S u ts → (whoQ q i u ts = some (j, k) ↔ ∃ (n : Nat) (h : n < ts.length), j = i + n ∧ k = q - (u + offN ts n) ∧ 0 ≤ k ∧ k < ts[n].nm) := by
 induction ts with
 | nil =>
  intro i P S u j k _ _
  exact ⟨fun h => (by cases h), fun h => (by obtain ⟨n, h, -⟩ := h; cases h)⟩
 | cons x t ih =>
  intro i P S u j k hu h
  have hx := h.1.2.2.2.2.1
  unfold whoQ
  by_cases c : q - u < x.nm
  ·rw [if_pos c]
   refine ⟨fun e => ?_, ?_⟩
   ·obtain ⟨rfl, rfl⟩ := Prod.mk.inj (Option.some.inj e)
    exact ⟨0, by simp, rfl, by simp [offN], by omega, c⟩
   ·rintro ⟨n, hn, rfl, hk, k0, k1⟩
    cases n with
    | zero => rw [hk]; simp [offN]
    | succ m =>
     exfalso
     have := offN_nonneg h.2.2 m
     rw [offN] at hk
     omega
  ·rw [if_neg c, ih (i + 1) _ _ _ j k (by omega) h.2.2]
   refine ⟨?_, ?_⟩
   ·rintro ⟨n, hn, rfl, hk, k0, k1⟩
    exact ⟨n + 1, by simpa using hn, by omega, by rw [offN]; omega, k0, k1⟩
   ·rintro ⟨n, hn, rfl, hk, k0, k1⟩
    cases n with
    | zero =>
     exfalso
     have k1 : k < x.nm := k1
     simp only [offN] at hk
     omega
    | succ m => exact ⟨m, by simpa using hn, by omega, by rw [offN] at hk; omega, k0, k1⟩
theorem LogOk.place {z d l pos : Int} (ts : List Txd) : ∀ (P S u : Int) (n : Nat) (hn : n < ts.length), P = (pos + u) % l → LogOk z d l P S u ts → ts[n].ps = (pos + u + offN ts n) % l ∧ u + offN ts n + ts[n].nm ≤ l ∧ u + offN ts n + ts[n].nm ≤ u + offN ts ts.length := by
 induction ts with
 | nil => intro P S u n hn; cases hn
 | cons x t ih =>
  intro P S u n hn hP h
  cases n with
  | zero =>
   have := offN_nonneg h.2.2 t.length
   have h2 := h.2.1
   refine ⟨?_, ?_, ?_⟩
   ·show x.ps = (pos + u + 0) % l
    rw [h.1.2.2.1, hP, Int.add_zero]
   ·show u + 0 + x.nm ≤ l
    omega
   ·show u + 0 + x.nm ≤ u + (x.nm + offN t t.length)
    omega
  | succ m =>
   have hm : m < t.length := by simpa using hn
   have hQ : (P + x.nm) % l = (pos + (u + x.nm)) % l := by
    rw [hP, Int.emod_add_emod]
    congr 1
    omega
   obtain ⟨h1, h2, h3⟩ := ih _ _ _ m hm hQ h.2.2
   refine ⟨?_, ?_, ?_⟩
   ·show t[m].ps = (pos + u + (x.nm + offN t m)) % l
    rw [h1]
    congr 1
    omega
   ·show u + (x.nm + offN t m) + t[m].nm ≤ l
    omega
   ·show u + (x.nm + offN t m) + t[m].nm ≤ u + (x.nm + offN t t.length)
    omega
theorem whoQ_any {z d l q : Int} (ts : List Txd) : ∀ (i : Nat) (P S u : Int), u ≤ q → LogOk z d l P S u ts → ((whoQ q i u ts).isSome = true ↔ q < u + offN ts ts.length) := by
 induction ts with
 | nil =>
  intro i P S u hu _
  refine ⟨fun h => (by cases h), fun h => ?_⟩
  have h : q < u + 0 := h
  omega
 | cons x t ih =>
  intro i P S u hu h
  have o := offN_nonneg h.2.2 t.length
  show _ ↔ q < u + (x.nm + offN t t.length)
  unfold whoQ
  by_cases c : q - u < x.nm
  ·rw [if_pos c]
   exact ⟨fun _ => by omega, fun _ => rfl⟩
  ·rw [if_neg c, ih (i + 1) _ _ _ (by omega) h.2.2]
   omega
theorem LogOk.whole {z d l : Int} (ts : List Txd) : ∀ (P S u : Int), u ≤ l → LogOk z d l P S u ts → u + offN ts ts.length ≤ l := by
 induction ts with
 | nil =>
  intro P S u hu _
  show u + 0 ≤ l
  omega
 | cons x t ih =>
  intro P S u hu h
  have := ih _ _ _ h.2.1 h.2.2
  show u + (x.nm + offN t t.length) ≤ l
  omega
theorem whoN_some {z d l pos S : Int} {ts : List Txd} (hl : 0 < l) (hp : 0 ≤ pos ∧ pos < l) (h : LogOk z d l pos S 0 ts) (s : Int) (j : Nat) (k : Int) : whoN l s 0 ts = some (j, k) ↔ ∃ h : j < ts.length, k = (s - pos) % l - offN ts j ∧ 0 ≤ k ∧ k < ts[j].nm := by
 have q0 := Int.emod_nonneg (s - pos) (show l ≠ 0 by omega)
 have hP : pos = (pos + 0) % l := by rw [Int.add_zero]; exact (Int.emod_eq_of_lt hp.1 hp.2).symm
 rw [whoN_Q hl rfl ts 0 pos S 0 hP (Int.le_refl 0) q0 h, whoQ_some ts 0 pos S 0 j k q0 h]
 constructor
 ·rintro ⟨n, hn, hj, hk, k0, k1⟩
  obtain rfl : j = n := by omega
  exact ⟨hn, by omega, k0, k1⟩
 ·rintro ⟨hn, hk, k0, k1⟩
  exact ⟨j, hn, by omega, by omega, k0, k1⟩
end Go.Proofs.YtbfdpibjicjagaaGreatDoor.rng
namespace Go.Proofs.YtbfdpibjicjagaaGreatDoor.rng
open Go.RowKit Go.Lib
open Go.Proofs.YtbfdpibjicjagaaGreatDoor.anc (bl kal kst ks bm ka flat_get flat_len slv_cell row_apart row_form row_below)
open Go.Proofs.YtbfdpibjicjagaaGreatDoor.img
structure TxR where
 sq : Int
 ps : Int
 nm : Int
 A : Option Addr
 c : Nat
 rs : List ImR
def TxR.vs (r : TxR) : List Value := [.int .i64 r.sq, .int .i64 r.ps, .int .i64 r.nm, .slice r.A r.rs.length r.c]
def TxR.d (r : TxR) : Txd := ⟨r.sq, r.ps, r.nm, ids r.rs⟩
def TxR.iv (r : TxR) : IV := ⟨r.A, r.c, r.rs⟩
def tvs (ts : List TxR) : List Value := ts.flatMap TxR.vs
def tds (ts : List TxR) : List Txd := ts.map TxR.d
theorem tvs_length (ts : List TxR) : (tvs ts).length = ts.length * 4 := flat_len TxR.vs 4 (fun _ => rfl) ts
theorem tds_length (ts : List TxR) : (tds ts).length = ts.length := by simp [tds]
theorem tvs_append (a b : List TxR) : tvs (a ++ b) = tvs a ++ tvs b := by simp [tvs]
theorem tds_append (a b : List TxR) : tds (a ++ b) = tds a ++ tds b := by simp [tds]
def TIn (w : World) (B : Nat) (ts : List TxR) : Prop := ∀ r ∈ ts, IV.In w B r.iv
section
variable {w w' : World} {B B' : Nat} {ts : List TxR}
theorem TIn.below (h : TIn w B ts) (hb : Below B w w') : TIn w' B ts := fun r hr => (h r hr).below hb
theorem TIn.more (h : TIn w B ts) (hB : B ≤ B') : TIn w B' ts := fun r hr => (h r hr).more hB
theorem TIn.next (h : TIn w w.heap.size ts) (hb : Below w.heap.size w w') : TIn w' w'.heap.size ts := (h.below hb).more hb.size
theorem TIn.nil (w : World) (B : Nat) : TIn w B [] := fun r hr => by cases hr
end
theorem txn_at {w : World} {B k : Nat} {A : Option Addr} {ts : List TxR} (hA : SlV w B A (tvs ts)) (hR : TIn w B ts) (hk : k < ts.length) :
  ∃ b off r, A = some ⟨b, off, none⟩ ∧ b < B ∧ w.cell? ⟨b, off + k * 4, none⟩ = some (.int .i64 r.sq) ∧ w.cell? ⟨b, off + k * 4 + 1, none⟩ = some (.int .i64 r.ps) ∧ w.cell? ⟨b, off + k * 4 + 2, none⟩ = some (.int .i64 r.nm) ∧ w.cell? ⟨b, off + k * 4 + 3, none⟩ = some (.slice r.A r.rs.length r.c) ∧ IV.In w B r.iv ∧ r ∈ ts ∧ ts[k]? = some r ∧ (tds ts)[k]? = some r.d := by
 obtain ⟨b, off, rfl, -, -⟩ := hA (by rw [tvs_length]; omega)
 have g := fun j (hj : j < 4) => flat_get TxR.vs 4 (fun _ => rfl) ts k j hj
 rw [List.getElem?_eq_getElem hk] at g
 have c0 := slv_cell hA (i := k * 4 + 0) (v := .int .i64 ts[k].sq) ((g 0 (by omega)).trans rfl)
 have c1 := slv_cell hA (i := k * 4 + 1) (v := .int .i64 ts[k].ps) ((g 1 (by omega)).trans rfl)
 have c2 := slv_cell hA (i := k * 4 + 2) (v := .int .i64 ts[k].nm) ((g 2 (by omega)).trans rfl)
 have c3 := slv_cell hA (i := k * 4 + 3) (v := .slice ts[k].A ts[k].rs.length ts[k].c) ((g 3 (by omega)).trans rfl)
 have hm := List.getElem_mem hk
 exact ⟨b, off, ts[k], rfl, c0.2, c0.1, c1.1, c2.1, c3.1, hR _ hm, hm, List.getElem?_eq_getElem hk, by simp [tds, hk]⟩
structure XV where
 A : Option Addr
 c : Nat
 ts : List TxR
structure XV.In (w : World) (B : Nat) (g : XV) : Prop where
 h : SlV w B g.A (tvs g.ts)
 i : TIn w B g.ts
 l : g.ts.length ≤ g.c ∧ g.c ≤ maxLen
section
variable {w w' : World} {B B' : Nat} {g : XV}
theorem XV.In.below (h : XV.In w B g) (hb : Below B w w') : XV.In w' B g := ⟨h.h.below hb, h.i.below hb, h.l⟩
theorem XV.In.more (h : XV.In w B g) (hB : B ≤ B') : XV.In w B' g := ⟨h.h.more hB, h.i.more hB, h.l⟩
theorem XV.In.next (h : XV.In w w.heap.size g) (hb : Below w.heap.size w w') : XV.In w' w'.heap.size g := (h.below hb).more hb.size
end
def OwnT (w : World) (base : Nat) (v : Value) (ts : List TxR) : Prop :=
 w.ownsRow base 63 4 v ts.length (tvs ts) ∧ ∀ r ∈ ts, OwnI w base (.slice r.A r.rs.length r.c) r.rs
theorem img_txn : 81 ≠ 63 := by decide
theorem u8_txn : 5 ≠ 63 := by decide
theorem tx_info : (Tryz.prog.info? 63).map (fun i => (i.zero, i.size, i.bytes)) = some (some (.agg #[.int .i64 0, .int .i64 0, .int .i64 0, .slice none 0 0]), 4, 48) := by kernel_rfl
theorem src_txn {P : Program} {w : World} {g : Nat} {t tx e' : TypeId} {a b c d : Value} (hg : w.heap[g]? = some (.cells #[a, b, c, d] t)) (hk : P.underlying tx = some (.slice e')) (h1 : ∀ u ∈ [a, b, c, d], u.oneCell' = true) : Src P 4 tx (.slice (some ⟨g, 0, none⟩) 1 1) 1 [a, b, c, d] w := by
 refine Src.ofSlice w hk ⟨g, 0, none⟩ 1 1 [a, b, c, d] rfl (fun j u hu => ?_) h1
 rw [Addr.add_lit, cell_of_row w g (0 + j) _ t _ hg, Nat.zero_add, ← Array.getElem?_toList]
 exact hu
section
variable {w w' : World} {base : Nat} {v v' : Value} {ts : List TxR}
theorem OwnI.kept {rs : List ImR} {u : Value} {row : Option Nat} (h : OwnI w base u rs) (hg : w.grownBy w' row) (h1 : u.ownBlock = none ∨ u.ownBlock ≠ row) (h2 : ∀ r ∈ rs, (Value.slice r.A r.l.length r.c).ownBlock = none ∨ (Value.slice r.A r.l.length r.c).ownBlock ≠ row) : OwnI w' base u rs :=
 ⟨World.ownsRow.kept h.1 hg h1, fun r hr => (h.2 r hr).kept hg (h2 r hr)⟩
theorem ownT_nil (w : World) (base : Nat) : OwnT w base (.slice none 0 0) [] := ⟨World.ownsRow_nil w base _ 4, fun r hr => by cases hr⟩
theorem OwnT.below (h : OwnT w base v ts) (hb : Below w.heap.size w w') : OwnT w' base v ts := ⟨row_below h.1 hb, fun r hr => (h.2 r hr).below hb⟩
theorem OwnT.less {base' : Nat} (h : OwnT w base v ts) (hb : base' ≤ base) : OwnT w base' v ts := by
 refine ⟨⟨h.1.1, ?_⟩, fun r hr => (h.2 r hr).less hb⟩
 rcases h.1.2 with k | ⟨g, cap, cur, a, b, c⟩
 ·exact .inl k
 ·exact .inr ⟨g, cap, cur, a, by omega, c⟩
theorem OwnT.more {r : TxR} (h : OwnT w base v ts) (hg : w.grownBy w' v.ownBlock) (hp : OwnI w base (.slice r.A r.rs.length r.c) r.rs) (h' : w'.ownsRow base 63 4 v' (ts.length + 1) (tvs ts ++ r.vs)) : OwnT w' base v' (ts ++ [r]) := by
 have hk : ∀ {u : Value} {qs : List ImR}, OwnI w base u qs → OwnI w' base u qs := fun hq => OwnI.kept hq hg (row_apart hq.1 h.1 img_txn) fun r hr => row_apart (hq.2 r hr) h.1 u8_txn
 refine ⟨?_, fun x hx => ?_⟩
 ·rw [List.length_append, tvs_append, show tvs [r] = r.vs by simp [tvs]]
  exact h'
 ·rcases List.mem_append.1 hx with k | k
  ·exact hk (h.2 x k)
  ·obtain rfl : x = r := List.mem_singleton.1 k
   exact hk hp
theorem ownT_in (h : OwnT w base v ts) : ∃ (A : Option Addr) (c : Nat), v = .slice A ts.length c ∧ XV.In w w.heap.size ⟨A, c, ts⟩ := by
 obtain ⟨A, c, hv, h1, h2, hs⟩ := row_form h.1
 refine ⟨A, c, hv, hs, fun r hr => ?_, h1, h2⟩
 obtain ⟨k1, k2, k3⟩ := ownI_in (h.2 r hr)
 exact ⟨k1, k2, k3⟩
end
structure Fou (W : World) (g : Nat) (a0 a1 a2 a3 : Value) : Prop where
 c0 : W.cell? ⟨g, 0, none⟩ = some a0
 c1 : W.cell? ⟨g, 1, none⟩ = some a1
 c2 : W.cell? ⟨g, 2, none⟩ = some a2
 c3 : W.cell? ⟨g, 3, none⟩ = some a3
 f0 : W.frozen? ⟨g, 0, none⟩ = false
 f1 : W.frozen? ⟨g, 1, none⟩ = false
 f2 : W.frozen? ⟨g, 2, none⟩ = false
 f3 : W.frozen? ⟨g, 3, none⟩ = false
section
variable {W W' : World} {g : Nat} {a0 a1 a2 a3 : Value}
theorem fou_new (w : World) (a0 a1 a2 a3 : Value) (t : TypeId) : Fou (w.alloc (.cells #[a0, a1, a2, a3] t)) w.heap.size a0 a1 a2 a3 := by
 have h := heap_alloc_new w (.cells #[a0, a1, a2, a3] t)
 constructor <;> first | (rw [cell_of_row _ _ _ _ _ _ h]; rfl) | exact World.frozen?_alloc_new _ _ _ _
theorem Fou.keep {B : Nat} (h : Fou W g a0 a1 a2 a3) (hb : Below B W W') (hg : g < B) : Fou W' g a0 a1 a2 a3 :=
 ⟨(hb.cell (p := ⟨g, 0, none⟩) hg).trans h.c0, (hb.cell (p := ⟨g, 1, none⟩) hg).trans h.c1, (hb.cell (p := ⟨g, 2, none⟩) hg).trans h.c2, (hb.cell (p := ⟨g, 3, none⟩) hg).trans h.c3, (hb.frozen (p := ⟨g, 0, none⟩) hg).trans h.f0, (hb.frozen (p := ⟨g, 1, none⟩) hg).trans h.f1, (hb.frozen (p := ⟨g, 2, none⟩) hg).trans h.f2, (hb.frozen (p := ⟨g, 3, none⟩) hg).trans h.f3⟩
theorem Fou.lt (h : Fou W g a0 a1 a2 a3) : g < W.heap.size := World.block_lt_of_cell? W _ h.c0
theorem Fou.grown {row : Option Nat} (h : Fou W g a0 a1 a2 a3) (hg : W.grownBy W' row) (hr : some g ≠ row) : Fou W' g a0 a1 a2 a3 := by
 have hb : W'.heap[g]? = W.heap[g]? := hg.block g h.lt hr
 exact ⟨(World.cell?_of_block (a := ⟨g, 0, none⟩) hb).trans h.c0, (World.cell?_of_block (a := ⟨g, 1, none⟩) hb).trans h.c1, (World.cell?_of_block (a := ⟨g, 2, none⟩) hb).trans h.c2, (World.cell?_of_block (a := ⟨g, 3, none⟩) hb).trans h.c3, (World.frozen?_of_block (a := ⟨g, 0, none⟩) hb).trans h.f0, (World.frozen?_of_block (a := ⟨g, 1, none⟩) hb).trans h.f1, (World.frozen?_of_block (a := ⟨g, 2, none⟩) hb).trans h.f2, (World.frozen?_of_block (a := ⟨g, 3, none⟩) hb).trans h.f3⟩
theorem Fou.set0 (h : Fou W g a0 a1 a2 a3) (v : Value) : Fou (W.setCell ⟨g, 0, none⟩ v) g v a1 a2 a3 := by
 refine ⟨?_, ?_, ?_, ?_, ?_, ?_, ?_, ?_⟩
 ·exact World.cell?_setCell_same _ _ _ h.c0
 ·rw [World.cell?_setCell_other _ _ _ _ (by simp)]; exact h.c1
 ·rw [World.cell?_setCell_other _ _ _ _ (by simp)]; exact h.c2
 ·rw [World.cell?_setCell_other _ _ _ _ (by simp)]; exact h.c3
 ·rw [World.frozen?_setCell]; exact h.f0
 ·rw [World.frozen?_setCell]; exact h.f1
 ·rw [World.frozen?_setCell]; exact h.f2
 ·rw [World.frozen?_setCell]; exact h.f3
theorem Fou.set1 (h : Fou W g a0 a1 a2 a3) (v : Value) : Fou (W.setCell ⟨g, 1, none⟩ v) g a0 v a2 a3 := by
 refine ⟨?_, ?_, ?_, ?_, ?_, ?_, ?_, ?_⟩
 ·rw [World.cell?_setCell_other _ _ _ _ (by simp)]; exact h.c0
 ·exact World.cell?_setCell_same _ _ _ h.c1
 ·rw [World.cell?_setCell_other _ _ _ _ (by simp)]; exact h.c2
 ·rw [World.cell?_setCell_other _ _ _ _ (by simp)]; exact h.c3
 ·rw [World.frozen?_setCell]; exact h.f0
 ·rw [World.frozen?_setCell]; exact h.f1
 ·rw [World.frozen?_setCell]; exact h.f2
 ·rw [World.frozen?_setCell]; exact h.f3
theorem Fou.set2 (h : Fou W g a0 a1 a2 a3) (v : Value) : Fou (W.setCell ⟨g, 2, none⟩ v) g a0 a1 v a3 := by
 refine ⟨?_, ?_, ?_, ?_, ?_, ?_, ?_, ?_⟩
 ·rw [World.cell?_setCell_other _ _ _ _ (by simp)]; exact h.c0
 ·rw [World.cell?_setCell_other _ _ _ _ (by simp)]; exact h.c1
 ·exact World.cell?_setCell_same _ _ _ h.c2
 ·rw [World.cell?_setCell_other _ _ _ _ (by simp)]; exact h.c3
 ·rw [World.frozen?_setCell]; exact h.f0
 ·rw [World.frozen?_setCell]; exact h.f1
 ·rw [World.frozen?_setCell]; exact h.f2
 ·rw [World.frozen?_setCell]; exact h.f3
theorem Fou.set3 (h : Fou W g a0 a1 a2 a3) (v : Value) : Fou (W.setCell ⟨g, 3, none⟩ v) g a0 a1 a2 v := by
 refine ⟨?_, ?_, ?_, ?_, ?_, ?_, ?_, ?_⟩
 ·rw [World.cell?_setCell_other _ _ _ _ (by simp)]; exact h.c0
 ·rw [World.cell?_setCell_other _ _ _ _ (by simp)]; exact h.c1
 ·rw [World.cell?_setCell_other _ _ _ _ (by simp)]; exact h.c2
 ·exact World.cell?_setCell_same _ _ _ h.c3
 ·rw [World.frozen?_setCell]; exact h.f0
 ·rw [World.frozen?_setCell]; exact h.f1
 ·rw [World.frozen?_setCell]; exact h.f2
 ·rw [World.frozen?_setCell]; exact h.f3
end
end Go.Proofs.YtbfdpibjicjagaaGreatDoor.rng
namespace Go.Proofs.YtbfdpibjicjagaaGreatDoor.rng
open Go.RowKit Go.Lib
open Go.Proofs.YtbfdpibjicjagaaGreatDoor.anc (bl kal kst ks bm ka row_apart row_form row_below step_row wpList_row)
open Go.Proofs.YtbfdpibjicjagaaGreatDoor.img
end Go.Proofs.YtbfdpibjicjagaaGreatDoor.rng
namespace Go.Proofs.YtbfdpibjicjagaaGreatDoor.rng
open Go.RowKit Go.Lib
open Go.Proofs.YtbfdpibjicjagaaGreatDoor.gmt (Ok)
open Go.Proofs.YtbfdpibjicjagaaGreatDoor.anc (AV)
def whoE (l s : Int) (ts : List Txd) : Value := match whoN l s 0 ts with
 | some (i, k) => .tuple #[.int .i64 i, .int .i64 k, .bool true]
 | none => .tuple #[.int .i64 0, .int .i64 0, .bool false]
end Go.Proofs.YtbfdpibjicjagaaGreatDoor.rng
namespace Go.Proofs.YtbfdpibjicjagaaGreatDoor.rng
open Go.RowKit Go.Lib
open Go.Proofs.YtbfdpibjicjagaaGreatDoor.gmt (Ok)
open Go.Proofs.YtbfdpibjicjagaaGreatDoor.anc (bl kal kst ks bm ka row_apart row_form row_below step_row wpList_row)
open Go.Proofs.YtbfdpibjicjagaaGreatDoor.tbl (G5 g5_new newE)
open Go.Proofs.YtbfdpibjicjagaaGreatDoor.img
def tabB (d : Int) : List UInt8 := tbl.encT (List.replicate (d.toNat + 1) newE)
theorem tabB_told {d : Int} (h : 0 ≤ d) : tbl.Told d (tabB d) := (tbl.told_of h (tbl.new_good h)).1
theorem ftab_c (z d s l a : Int) (W : World) (ho : Ok z d s l a) : Calls Tryz.prog 41 #[.agg #[.int .i64 z, .int .i64 d, .int .i64 s, .int .i64 l, .int .i64 a]] W fun e w' => (∃ t : tbl.TV, e = .returned (.agg #[.slice t.A (d.toNat + 1) t.c]) ∧ t.es = List.replicate (d.toNat + 1) newE ∧ t.In w' w'.heap.size) ∧ Below W.heap.size W w' := by
 refine (tbl.rfirst_tab z d s l a W ho).mono ?_
 rintro e w' ⟨⟨t, rfl, hte, hto⟩, hb⟩
 exact ⟨⟨t, by rw [tbl.TV.v, hte, List.length_replicate], hte, tbl.TV.Own.inn hto⟩, hb⟩
theorem btab_c (d : Int) (hd : 0 ≤ d ∧ d ≤ 4) (t : tbl.TV) (W : World) (ht : t.In W W.heap.size) (he : t.es = List.replicate (d.toNat + 1) newE) : Calls Tryz.prog 40 #[.agg #[.slice t.A (d.toNat + 1) t.c]] W fun e w' => (∃ (X : Option Addr) (c : Nat), e = .returned (.slice X (tabB d).length c) ∧ Own w' W.heap.size 5 (.slice X (tabB d).length c) (tabB d)) ∧ Below W.heap.size W w' := by
 have h9 := tbl.rbytes_tab t (d.toNat + 1) _ W ht (by rw [he, List.length_replicate]) (by omega) (fun e h => by rw [he] at h; rw [(List.mem_replicate.1 h).2]; exact tbl.newE_ok) rfl
 rw [tbl.TV.v, he, List.length_replicate] at h9
 refine h9.mono ?_
 rintro e w' ⟨⟨X, c, rfl, hl, ho⟩, hb⟩
 rw [← hl] at ho ⊢
 exact ⟨⟨X, c, rfl, ho⟩, hb⟩
theorem drop_cons {ys : List Int} {k : Nat} {y : Int} (h : ys[k]? = some y) : ys.drop k = y :: ys.drop (k + 1) := by
 obtain ⟨hk, rfl⟩ := List.getElem?_eq_some_iff.1 h
 exact List.drop_eq_getElem_cons hk
theorem lit8 {fl : Int} {k j : Nat} (h : 0 ≤ fl ∧ fl ≤ 255) (hk : k < 256) (hj : j < 256) : (#[.int .u8 fl, .int .u8 (k : Int), .int .u8 (j : Int), .int .u8 1, .int .u8 2, .int .u8 3, .int .u8 4, .int .u8 5] : Array Value).toList = cells8 [UInt8.ofNat fl.toNat, UInt8.ofNat k, UInt8.ofNat j, 1, 2, 3, 4, 5] := by
 have e2 : (UInt8.ofNat k).toNat = k := by rw [UInt8.toNat_ofNat']; omega
 have e3 : (UInt8.ofNat j).toNat = j := by rw [UInt8.toNat_ofNat']; omega
 simp [cells8, by8, e2, e3]
 omega
theorem own_lit8 (w : World) (base : Nat) (cs : Array Value) (l : List UInt8) (hb : base ≤ w.heap.size) (h : cs.toList = cells8 l) (hs : cs.size = 8) (hl : l.length = 8) : Own (w.alloc (.cells cs 5)) base 5 (.slice (some ⟨w.heap.size, 0, none⟩) 8 8) l := by
 have h9 := World.ownsRow_lit (base := base) (e := 5) (size := 1) w cs 8 hb (by decide) hs
 rw [h] at h9
 unfold Own
 rw [hl]
 exact h9
theorem tri_drew {W : World} {g : Nat} {a b c : Value} (h : anc.Tri W g a b c) : anc.Tri W.drew g a b c := h.keep (below_dr (Below.refl (g + 1) _)) (Nat.lt_succ_self _)
theorem own_cell {w : World} {base g o : Nat} {e : TypeId} {v : Value} {l : List UInt8} (h : Own w base e v l) (hg : g < base) (u : Value) : Own (w.setCell ⟨g, o, none⟩ u) base e v l :=
 h.kept (row := some g) ⟨by first | rfl | simp, by first | rfl | simp, by first | rfl | simp, by rw [World.size_setCell]; exact Nat.le_refl _, fun k _ hk => heap_setCell_other w ⟨g, o, none⟩ k u (fun q => hk (by rw [q]))⟩ (.inr fun he => absurd (pck.own_far h g he) (by omega))
theorem own_tri {w : World} {base g : Nat} {e : TypeId} {v : Value} {l : List UInt8} (h : Own w base e v l) (hg : g < base) (x y z : Value) : Own (((w.setCell ⟨g, 0, none⟩ x).setCell ⟨g, 1, none⟩ y).setCell ⟨g, 2, none⟩ z) base e v l := own_cell (own_cell (own_cell h hg x) hg y) hg z
theorem below_tri {w w' : World} {B q : Nat} (h : Below B w w') (hq : B ≤ q) (x y z : Value) : Below B w (((w'.setCell ⟨q, 0, none⟩ x).setCell ⟨q, 1, none⟩ y).setCell ⟨q, 2, none⟩ z) :=
 ((h.setCell (p := ⟨q, 0, none⟩) hq x).setCell (p := ⟨q, 1, none⟩) hq y).setCell (p := ⟨q, 2, none⟩) hq z
theorem imsX_next (z d : Int) (tb : List UInt8) (fill : UInt8) (i n : Nat) : imsX z d tb fill i (n + 1) = imsX z d tb fill i n ++ [imgX z d tb fill i n] := by
 unfold imsX
 rw [List.range_succ, List.map_append, List.map_singleton]
theorem fou_far {W W' : World} {g : Nat} {a b c d v : Value} (h : Fou W g a b c d) (hg : W.grownBy W' v.ownBlock) (hv : ∀ q, v.ownBlock = some q → g + 1 ≤ q) : Fou W' g a b c d := h.grown hg fun e => by
 have := hv g e.symm
 omega
theorem log_c (z d s l a gen ep pos sq last : Int) (lab : ByteArray) (HA : Option Addr) (hn hc : Nat) (yA : Option Addr) (yc : Nat) (ys : List Int) (n : Nat) (fl : Int) (w : World) (ho : Ok z d s l a) (hA : SlV w w.heap.size yA (ints ys)) (hyn : ys.length = n) (hn1 : n ≤ 40) (hp : 0 ≤ pos ∧ pos ≤ l - 1) (hs : 0 ≤ sq ∧ sq ≤ 4294967295) (hfl : 0 ≤ fl ∧ fl ≤ 255) :
  Calls Tryz.prog 21 #[.agg #[.int .i64 z, .int .i64 d, .int .i64 s, .int .i64 l, .int .i64 a], .agg #[.int .i64 gen, .int .i64 ep, .int .i64 pos, .int .i64 sq, .int .i64 last, .string lab, .slice HA hn hc], .slice yA n yc, .int .u8 fl] w fun e w' => (∃ (v : Value) (ts : List TxR), e = .returned v ∧ tds ts = logX z d l (tabB d) (UInt8.ofNat fl.toNat) sq 0 pos 0 ys ∧ OwnT w' w.heap.size v ts) ∧ Below w.heap.size w w' := by
 have s1 : (w.alloc (.cells #[.int .i64 z, .int .i64 d, .int .i64 s, .int .i64 l, .int .i64 a] 23)).heap.size = w.heap.size + 1 := by simp
 have hx2 := bl (w.alloc (.cells #[.int .i64 z, .int .i64 d, .int .i64 s, .int .i64 l, .int .i64 a] 23)) (.cells #[.int .i64 gen, .int .i64 ep, .int .i64 pos, .int .i64 sq, .int .i64 last, .string lab, .slice HA hn hc] 26)
 have GG := (g5_new w z d s l a).keep hx2 (by omega)
 have c2 : ((w.alloc (.cells #[.int .i64 z, .int .i64 d, .int .i64 s, .int .i64 l, .int .i64 a] 23)).alloc (.cells #[.int .i64 gen, .int .i64 ep, .int .i64 pos, .int .i64 sq, .int .i64 last, .string lab, .slice HA hn hc] 26)).cell? ⟨w.heap.size + 1, 2, none⟩ = some (.int .i64 pos) := by rw [← s1, cell_of_row _ _ 2 _ _ _ (heap_alloc_new _ _)]; rfl
 have c3 : ((w.alloc (.cells #[.int .i64 z, .int .i64 d, .int .i64 s, .int .i64 l, .int .i64 a] 23)).alloc (.cells #[.int .i64 gen, .int .i64 ep, .int .i64 pos, .int .i64 sq, .int .i64 last, .string lab, .slice HA hn hc] 26)).cell? ⟨w.heap.size + 1, 3, none⟩ = some (.int .i64 sq) := by rw [← s1, cell_of_row _ _ 3 _ _ _ (heap_alloc_new _ _)]; rfl
 have hw := kal (bl w (.cells #[.int .i64 z, .int .i64 d, .int .i64 s, .int .i64 l, .int .i64 a] 23)) (.cells #[.int .i64 gen, .int .i64 ep, .int .i64 pos, .int .i64 sq, .int .i64 last, .string lab, .slice HA hn hc] 26)
 have l2 : w.heap.size + 1 < ((w.alloc (.cells #[.int .i64 z, .int .i64 d, .int .i64 s, .int .i64 l, .int .i64 a] 23)).alloc (.cells #[.int .i64 gen, .int .i64 ep, .int .i64 pos, .int .i64 sq, .int .i64 last, .string lab, .slice HA hn hc] 26)).heap.size := by simp
 have HY := Lib.hid (hA.next hw)
 have HYN := Lib.hid hyn
 have HO := Lib.hid ho
 obtain ⟨o1, o2, -, o4, -⟩ := id ho
 obtain ⟨L, hL⟩ : ∃ L, L = logX z d l (tabB d) (UInt8.ofNat fl.toNat) sq 0 pos 0 ys := ⟨_, rfl⟩
 rw [← hL]
 have HL0 := Lib.hid hL
 clear hL
 clear s1 hx2 hA hyn ho
 go_enter Tryz.func21, Tryz.ntmps21
 go_upto_region 1 with fail
 generalize (w.alloc (.cells #[.int .i64 z, .int .i64 d, .int .i64 s, .int .i64 l, .int .i64 a] 23)).alloc (.cells #[.int .i64 gen, .int .i64 ep, .int .i64 pos, .int .i64 sq, .int .i64 last, .string lab, .slice HA hn hc] 26) = w0 at *
 obtain ⟨g0, g1, g2, g3, g4⟩ := id GG
 have HMG := Lib.hid (show ∀ W, Below w0.heap.size w0 W → G5 W w.heap.size z d s l a ∧ W.cell? ⟨w.heap.size + 1, 3, none⟩ = some (.int .i64 sq) from fun W hW => ⟨GG.keep hW (by omega), ks hW (by omega) c3⟩)
 go_upto_region 4 with fail
 clear g0 g1 g2 g3 g4 c2 c3 GG
 go_loopw [9, 10, 11, 12] (fun v p u i w' => ∃ (k : Nat) (ps us : Int) (qs : List TxR), k ≤ n ∧ i = .int .i64 k ∧ p = .int .i64 ps ∧ u = .int .i64 us ∧ (0 ≤ ps ∧ ps ≤ l - 1) ∧ (0 ≤ us ∧ us ≤ l) ∧ qs.length = k ∧ tds qs ++ logX z d l (tabB d) (UInt8.ofNat fl.toNat) sq k ps us (ys.drop k) = L ∧ OwnT w' w0.heap.size v qs ∧ Below w0.heap.size w0 w') (fun _ _ _ i _ => n - (RowKit.intOf i).toNat)
 case atStart => exact ⟨0, pos, 0, [], by omega, rfl, rfl, rfl, hp, by omega, rfl, by rw [HL0.out]; rfl, ownT_nil _ _, Below.refl _ _⟩
 case round =>
  obtain ⟨w5, rfl⟩ : ∃ x, x = wr := ⟨wr, rfl⟩
  obtain ⟨k, ps, us, qs, hk, rfl, rfl, rfl, hps, hus, hqk, hqs, hown, hbr⟩ := hrel
  have lw := hbr.size
  obtain ⟨GG, c3⟩ := HMG.out w5 hbr
  obtain ⟨g0, g1, g2, g3, g4⟩ := id GG
  by_cases hlt : k < n
  ·have j1 : (k : Int) < (n : Int) := by omega
   have hky : k < ys.length := by rw [HYN.out]; exact hlt
   obtain ⟨b1, off, rfl, hb1, hcs⟩ := (HY.out.below hbr) (by rw [ints_length, HYN.out]; omega)
   have gy := hcs k (by rw [ints_length]; exact hky)
   rw [ints_get] at gy
   have e1 : ys[k]? = some ys[k] := List.getElem?_eq_getElem hky
   obtain ⟨y, hy⟩ : ∃ y, y = ys[k] := ⟨_, rfl⟩
   rw [← hy] at gy e1
   have hdr := drop_cons e1
   obtain ⟨U, hU⟩ : ∃ U : Nat, (IntKind.u64.wrap y).tmod 5 = (U : Int) := ⟨((IntKind.u64.wrap y).tmod 5).toNat, by have := Int.tmod_nonneg 5 (wrap_nonneg y); omega⟩
   have hU5 : U < 5 := by have := Int.tmod_lt_of_pos (IntKind.u64.wrap y) (show (0 : Int) < 5 by decide); omega
   have HNN := Lib.hid (show cntX y = 1 + U by unfold cntX; omega)
   obtain ⟨A9, c9, hv9, -⟩ := ownT_in hown
   rw [hqk] at hv9
   subst hv9
   have HDR := Lib.hid hdr
   have HQS := Lib.hid hqs
   have HQK := Lib.hid hqk
   clear hcs e1 hy hdr hqs hky hqk
   by_cases hbk : l < us + (1 + (U : Int)) + 1
   ·have HX := Lib.hid (show tds qs = L by
     have h9 := HQS.out
     rw [HDR.out, logX, if_pos (by rw [HNN.out]; omega), List.append_nil] at h9
     exact h9)
    go_wp2_with fail
    go_ret
    first | exact ⟨⟨_, _, rfl, HX.out, hown.less (by omega)⟩, hw.trans (hbr.mono hw.size)⟩ | exact ⟨⟨_, rfl, _, HX.out, hown.less (by omega)⟩, hw.trans (hbr.mono hw.size)⟩
   ·have HX := Lib.hid (show tds qs ++ (⟨sq + k, ps, ((1 + U : Nat) : Int) + 1, imsX z d (tabB d) (UInt8.ofNat fl.toNat) k (1 + U)⟩ :: logX z d l (tabB d) (UInt8.ofNat fl.toNat) sq (k + 1) ((ps + ((1 + U : Nat) : Int) + 1) % l) (us + ((1 + U : Nat) : Int) + 1) (ys.drop (k + 1))) = L by
     have h9 := HQS.out
     rw [HDR.out, logX, if_neg (by rw [HNN.out]; omega), HNN.out] at h9
     exact h9)
    have us1 : IntKind.i64.wrap (sq + (k : Int)) = sq + (k : Int) := IntWalk.i64_in _ (by omega)
    go_upto_region 10 with fail
    have FX := fou_new w5 (.int .i64 (sq + (k : Int))) (.int .i64 ps) (.int .i64 (1 + (U : Int) + 1)) (.slice none 0 0) 63
    have hb6 := bl w5 (.cells #[.int .i64 (sq + (k : Int)), .int .i64 ps, .int .i64 (1 + (U : Int) + 1), .slice none 0 0] 63)
    have l6 : w5.heap.size < (w5.alloc (.cells #[.int .i64 (sq + (k : Int)), .int .i64 ps, .int .i64 (1 + (U : Int) + 1), .slice none 0 0] 63)).heap.size := by simp
    clear g0 g1 g2 g3 g4 c3 gy GG
    generalize w5.alloc (.cells #[.int .i64 (sq + (k : Int)), .int .i64 ps, .int .i64 (1 + (U : Int) + 1), .slice none 0 0] 63) = w6 at *
    go_loopw [15] (fun i w' => ∃ (j : Nat) (v : Value) (is : List ImR), j ≤ 1 + U ∧ i = .int .i64 j ∧ ids is = imsX z d (tabB d) (UInt8.ofNat fl.toNat) k j ∧ Fou w' w5.heap.size (.int .i64 (sq + (k : Int))) (.int .i64 ps) (.int .i64 (1 + (U : Int) + 1)) v ∧ OwnI w' (w5.heap.size + 1) v is ∧ Below w5.heap.size w5 w') (fun i _ => 1 + U - (RowKit.intOf i).toNat)
    case atStart => exact ⟨0, _, [], by omega, rfl, rfl, FX, ownI_nil _ _, hb6⟩
    case round =>
     obtain ⟨w8, rfl⟩ : ∃ x, x = wr := ⟨wr, rfl⟩
     obtain ⟨j, v, is, hj, rfl, his, hF, hI, hbi⟩ := hrel
     obtain ⟨G8, c3⟩ := HMG.out w8 (hbr.trans (hbi.mono lw))
     obtain ⟨g0, g1, g2, g3, g4⟩ := id G8
     have l8 := hF.lt
     by_cases hj2 : j < 1 + U
     ·have j2 : (j : Int) < 1 + (U : Int) := by omega
      obtain ⟨zn, hzn⟩ : ∃ q, ((k : Int) + (j : Int)).tmod z = q := ⟨_, rfl⟩
      obtain ⟨wq, hwq⟩ : ∃ q, ((k : Int) + 2 * (j : Int)).tmod (d + 1) = q := ⟨_, rfl⟩
      have hzn1 : 0 ≤ zn ∧ zn < z := by rw [← hzn]; exact ⟨Int.tmod_nonneg _ (by omega), Int.tmod_lt_of_pos _ (by omega)⟩
      have hwq1 : 0 ≤ wq ∧ wq < d + 1 := by rw [← hwq]; exact ⟨Int.tmod_nonneg _ (by omega), Int.tmod_lt_of_pos _ (by omega)⟩
      have HZN := Lib.hid (show ((k + j : Nat) : Int) % z = zn by rw [← hzn, Int.tmod_eq_emod_of_nonneg (by omega)]; try rfl)
      have HWQ := Lib.hid (show ((k + 2 * j : Nat) : Int) % (d + 1) = wq by rw [← hwq, Int.tmod_eq_emod_of_nonneg (by omega)]; try rfl)
      have v1 : IntKind.i64.wrap ((k : Int) + (j : Int)) = (k : Int) + (j : Int) := IntWalk.i64_in _ (by omega)
      have v2 : IntKind.i64.wrap (2 * (j : Int)) = 2 * (j : Int) := IntWalk.i64_in _ (by omega)
      have v3 : IntKind.i64.wrap ((k : Int) + 2 * (j : Int)) = (k : Int) + 2 * (j : Int) := IntWalk.i64_in _ (by omega)
      have v4 : IntKind.i64.wrap (d + 1) = d + 1 := IntWalk.i64_in _ (by omega)
      have v5 : IntKind.i64.wrap (wq - 1) = wq - 1 := IntWalk.i64_in _ (by omega)
      have v6 : IntKind.u8.wrap (k : Int) = (k : Int) := by simp [IntKind.wrap, IntKind.bits, IntKind.signed]; omega
      have v7 : IntKind.u8.wrap (j : Int) = (j : Int) := by simp [IntKind.wrap, IntKind.bits, IntKind.signed]; omega
      have q1 : ¬ z = 0 := by omega
      have q2 : ¬ d + 1 = 0 := by omega
      have q3 : (z == 0) = false := beq_eq_false_iff_ne.2 q1
      have q4 : (d + 1 == 0) = false := beq_eq_false_iff_ne.2 q2
      have HS := Lib.hid (show ∀ W, Below w8.heap.size w8 W → (W.cell? ⟨w.heap.size, 0, none⟩ = some (.int .i64 z) ∧ W.cell? ⟨w.heap.size, 1, none⟩ = some (.int .i64 d)) ∧ Below w8.heap.size w8 W from fun W hW => ⟨⟨ks hW (by omega) g0, ks hW (by omega) g1⟩, hW⟩)
      have hd0 : Below w8.heap.size w8 w8.drew := below_dr (Below.refl _ _)
      go_upto_region 12 with fail
      have HLT := Lib.hid (lit8 hfl (show k < 256 by omega) (show j < 256 by omega))
      go_cut [16] from 113 (fun p wc => ∃ (gy : Nat) (X : Option Addr), p = .pointer (some ⟨gy, 0, none⟩) ∧ w8.heap.size ≤ gy ∧ anc.Tri wc gy (.int .i64 zn) (.int .i64 (wq - 1)) (.slice X 8 8) ∧ Own wc (w5.heap.size + 1) 5 (.slice X 8 8) [UInt8.ofNat fl.toNat, UInt8.ofNat k, UInt8.ofNat j, 1, 2, 3, 4, 5] ∧ Below w8.heap.size w8 wc)
      case first =>
       go_region_held3 (fun W => (W.cell? ⟨w.heap.size, 0, none⟩ = some (.int .i64 z) ∧ W.cell? ⟨w.heap.size, 1, none⟩ = some (.int .i64 d)) ∧ Below w8.heap.size w8 W)
        ((refine HS.out _ ?_; first
         | with_reducible exact hd0
         | with_reducible exact kal hd0 _
         | with_reducible exact kal (kal hd0 _) _
         | with_reducible exact below_dr (bl w8 _)
         | with_reducible exact below_dr (kal (bl w8 _) _)
         | fail))
        (first | fail)
       all_goals (go_wp2_with fail; go_meet)
       ·have s8 : (w8.alloc (.cells #[.int .u8 fl, .int .u8 (k : Int), .int .u8 (j : Int), .int .u8 1, .int .u8 2, .int .u8 3, .int .u8 4, .int .u8 5] 5)).heap.size = w8.heap.size + 1 := by simp
        have hT := anc.tri_new (w8.alloc (.cells #[.int .u8 fl, .int .u8 (k : Int), .int .u8 (j : Int), .int .u8 1, .int .u8 2, .int .u8 3, .int .u8 4, .int .u8 5] 5)) (.int .i64 zn) (.int .i64 (wq - 1)) (.slice (some ⟨w8.heap.size, 0, none⟩) 8 8) 81
        have hO : Own (w8.alloc (.cells #[.int .u8 fl, .int .u8 (k : Int), .int .u8 (j : Int), .int .u8 1, .int .u8 2, .int .u8 3, .int .u8 4, .int .u8 5] 5)) (w5.heap.size + 1) 5 (.slice (some ⟨w8.heap.size, 0, none⟩) 8 8) [UInt8.ofNat fl.toNat, UInt8.ofNat k, UInt8.ofNat j, 1, 2, 3, 4, 5] := own_lit8 w8 _ _ _ (by omega) HLT.out rfl rfl
        rw [s8] at hT
        exact ⟨w8.heap.size + 1, some ⟨w8.heap.size, 0, none⟩, rfl, Nat.le_succ _, tri_drew hT, (hO.alloc _).drew, below_dr (kal (bl w8 _) _)⟩
       ·have s8 : (w8.alloc (.cells #[.int .i64 zn, .int .i64 (wq - 1), .slice (some ⟨w8.heap.size + 1, 0, none⟩) 8 8] 81)).heap.size = w8.heap.size + 1 := by simp
        have hT := (anc.tri_new w8 (.int .i64 zn) (.int .i64 (wq - 1)) (.slice (some ⟨w8.heap.size + 1, 0, none⟩) 8 8) 81).keep (bl (w8.alloc (.cells #[.int .i64 zn, .int .i64 (wq - 1), .slice (some ⟨w8.heap.size + 1, 0, none⟩) 8 8] 81)) (.cells #[.int .u8 fl, .int .u8 (k : Int), .int .u8 (j : Int), .int .u8 1, .int .u8 2, .int .u8 3, .int .u8 4, .int .u8 5] 5)) (by omega)
        have hO : Own ((w8.alloc (.cells #[.int .i64 zn, .int .i64 (wq - 1), .slice (some ⟨w8.heap.size + 1, 0, none⟩) 8 8] 81)).alloc (.cells #[.int .u8 fl, .int .u8 (k : Int), .int .u8 (j : Int), .int .u8 1, .int .u8 2, .int .u8 3, .int .u8 4, .int .u8 5] 5)) (w5.heap.size + 1) 5 (.slice (some ⟨w8.heap.size + 1, 0, none⟩) 8 8) [UInt8.ofNat fl.toNat, UInt8.ofNat k, UInt8.ofNat j, 1, 2, 3, 4, 5] := by
         have h9 := own_lit8 (w8.alloc (.cells #[.int .i64 zn, .int .i64 (wq - 1), .slice (some ⟨w8.heap.size + 1, 0, none⟩) 8 8] 81)) (w5.heap.size + 1) _ _ (by omega) HLT.out rfl rfl
         rw [s8] at h9
         exact h9
        exact ⟨w8.heap.size, some ⟨w8.heap.size + 1, 0, none⟩, rfl, Nat.le_refl _, tri_drew hT, hO.drew, below_dr (kal (bl w8 _) _)⟩
      case rest =>
       obtain ⟨gy, X, rfl, hgy, hT, hO, hbc⟩ := hcut
       obtain ⟨w10, rfl⟩ : ∃ y, y = wc := ⟨wc, rfl⟩
       clear HS hd0 g0 g1 g2 g3 g4 v2 v3 v4 v5 v6 v7 q2 q4 HLT
       obtain ⟨G10, -⟩ := HMG.out w10 (hbr.trans ((hbi.trans (hbc.mono (Nat.le_of_lt l8))).mono lw))
       have lb := hbc.size
       have v8 : ((k : Int) + (j : Int)).tmod 4 = (((k + j) % 4 : Nat) : Int) := by rw [Int.tmod_eq_emod_of_nonneg (by omega)]; omega
       go_upto_region 13 with fail
       go_upto_if 80 with fail
       go_cut [] from 80 to 90 (fun wc => ∃ y : ImR, y.d = imgX z d (tabB d) (UInt8.ofNat fl.toNat) k j ∧ anc.Tri wc gy (.int .i64 y.z) (.int .i64 y.wh) (.slice y.A y.l.length y.c) ∧ Own wc (w5.heap.size + 1) 5 (.slice y.A y.l.length y.c) y.l ∧ Below w8.heap.size w8 wc)
       case first =>
        by_cases h3 : (k + j) % 4 = 3
        ·have i3 : (((k + j) % 4 : Nat) : Int) = 3 := by omega
         have i4 : ((((k + j) % 4 : Nat) : Int) == 3) = true := beq_iff_eq.2 i3
         have HIM := Lib.hid (show imgX z d (tabB d) (UInt8.ofNat fl.toNat) k j = (zn, 255, tabB d) by unfold imgX; rw [if_pos h3, HZN.out])
         have HFT := Lib.hid fun W => ftab_c z d s l a W HO.out
         have HBT := Lib.hid fun (t : tbl.TV) (W : World) (ht : t.In W W.heap.size) (he : t.es = List.replicate (d.toNat + 1) newE) => btab_c d (by omega) t W ht he
         generalize hMd : d.toNat + 1 = M at *
         generalize hQ : (tabB d).length = Q at *
         have HS := Lib.hid (show ∀ W, Below w10.heap.size w10 W → (W.cell? ⟨w.heap.size, 0, none⟩ = some (.int .i64 z) ∧ W.cell? ⟨w.heap.size, 1, none⟩ = some (.int .i64 d) ∧ W.cell? ⟨w.heap.size, 2, none⟩ = some (.int .i64 s) ∧ W.cell? ⟨w.heap.size, 3, none⟩ = some (.int .i64 l) ∧ W.cell? ⟨w.heap.size, 4, none⟩ = some (.int .i64 a)) ∧ Below w10.heap.size w10 W from fun W hW => by
          have G := G10.keep hW (by omega)
          exact ⟨⟨G.g0, G.g1, G.g2, G.g3, G.g4⟩, hW⟩)
         have hd0 : Below w10.heap.size w10 w10.drew := below_dr (Below.refl _ _)
         have HMQ := Lib.hid (And.intro hMd hQ)
         clear h3 hMd hQ
         go_upto_region 14 with fail
         refine wp_region_tail (S := fun W => (W.cell? ⟨w.heap.size, 0, none⟩ = some (.int .i64 z) ∧ W.cell? ⟨w.heap.size, 1, none⟩ = some (.int .i64 d) ∧ W.cell? ⟨w.heap.size, 2, none⟩ = some (.int .i64 s) ∧ W.cell? ⟨w.heap.size, 3, none⟩ = some (.int .i64 l) ∧ W.cell? ⟨w.heap.size, 4, none⟩ = some (.int .i64 a)) ∧ Below w10.heap.size w10 W) 10 rfl (by kernel_rfl) (by kernel_rfl) (HS.out _ hd0) (fun hS => ?_)
         simp only [List.take_succ_cons, List.take_zero]
         (refine wpAnyH_take (i := 0) (v := ?_) rfl (by kernel_rfl) (by kernel_rfl) (by kernel_rfl) (fun _ _ _ h => h) (Or.inl ⟨by rfl, ?_⟩) (by assumption) ?_; rotate_left; (focus (intro w hSw; (try dsimp only at hSw); go_split_ands; go_simp <;> with_reducible rfl)); simp only [List.getElem_toArray, List.getElem_cons_zero, Act.put, List.setIfInBounds_toArray, List.set_cons_zero, List.set_cons_succ])
         (refine wpAnyH_take (i := 1) (v := ?_) rfl (by kernel_rfl) (by kernel_rfl) (by kernel_rfl) (fun _ _ _ h => h) (Or.inl ⟨by rfl, ?_⟩) (by assumption) ?_; rotate_left; (focus (intro w hSw; (try dsimp only at hSw); go_split_ands; go_simp <;> with_reducible rfl)); simp only [List.getElem_toArray, List.getElem_cons_zero, List.getElem_cons_succ, Act.put, List.setIfInBounds_toArray, List.set_cons_zero, List.set_cons_succ])
         (refine wpAnyH_take (i := 2) (v := ?_) rfl (by kernel_rfl) (by kernel_rfl) (by kernel_rfl) (fun _ _ _ h => h) (Or.inl ⟨by rfl, ?_⟩) (by assumption) ?_; rotate_left; (focus (intro w hSw; (try dsimp only at hSw); go_split_ands; go_simp <;> with_reducible rfl)); simp only [List.getElem_toArray, List.getElem_cons_zero, List.getElem_cons_succ, Act.put, List.setIfInBounds_toArray, List.set_cons_zero, List.set_cons_succ])
         (refine wpAnyH_take (i := 3) (v := ?_) rfl (by kernel_rfl) (by kernel_rfl) (by kernel_rfl) (fun _ _ _ h => h) (Or.inl ⟨by rfl, ?_⟩) (by assumption) ?_; rotate_left; (focus (intro w hSw; (try dsimp only at hSw); go_split_ands; go_simp <;> with_reducible rfl)); simp only [List.getElem_toArray, List.getElem_cons_zero, List.getElem_cons_succ, Act.put, List.setIfInBounds_toArray, List.set_cons_zero, List.set_cons_succ])
         (refine wpAnyH_take (i := 4) (v := ?_) rfl (by kernel_rfl) (by kernel_rfl) (by kernel_rfl) (fun _ _ _ h => h) (Or.inl ⟨by rfl, ?_⟩) (by assumption) ?_; rotate_left; (focus (intro w hSw; (try dsimp only at hSw); go_split_ands; go_simp <;> with_reducible rfl)); simp only [List.getElem_toArray, List.getElem_cons_zero, List.getElem_cons_succ, Act.put, List.setIfInBounds_toArray, List.set_cons_zero, List.set_cons_succ])
         (refine wpAnyH_take (i := 5) (v := ?_) rfl (by kernel_rfl) (by kernel_rfl) (by kernel_rfl) (fun _ _ _ h => h) (Or.inl ⟨by rfl, ?_⟩) (by assumption) ?_; rotate_left; (focus (intro w hSw; (try dsimp only at hSw); go_split_ands; go_simp <;> with_reducible rfl)); simp only [List.getElem_toArray, List.getElem_cons_zero, List.getElem_cons_succ, Act.put, List.setIfInBounds_toArray, List.set_cons_zero, List.set_cons_succ])
         (refine wpAnyH_take (i := 6) (v := ?_) rfl (by kernel_rfl) (by kernel_rfl) (by kernel_rfl) (fun _ _ _ h => h) (Or.inl ⟨by rfl, ?_⟩) (by assumption) ?_; rotate_left; (focus (intro w hSw; (try dsimp only at hSw); go_split_ands; go_simp <;> with_reducible rfl)); simp only [List.getElem_toArray, List.getElem_cons_zero, List.getElem_cons_succ, Act.put, List.setIfInBounds_toArray, List.set_cons_zero, List.set_cons_succ])
         refine wpAnyH_ready (rs := [7]) (by kernel_rfl) (by simp) ?_
         refine AllReadyH.cons rfl (fun K hK => ?_) AllReadyH.nil
         go_simp
         (with_reducible refine (HFT.out _).mono ?_)
         rintro e w11 ⟨⟨t, rfl, hte, hti⟩, hb11⟩
         have hh1 := bt hd0 hb11
         refine hK.out _ _ (HS.out _ hh1) (fun hS2 => ?_)
         clear hK K
         try simp only [List.getElem_toArray, List.getElem_cons_zero, List.getElem_cons_succ, Act.put, List.setIfInBounds_toArray, List.set_cons_zero, List.set_cons_succ]
         refine wpAnyH_ready (rs := [8]) (by kernel_rfl) (by simp) ?_
         refine AllReadyH.cons rfl (fun K hK => ?_) AllReadyH.nil
         go_simp
         (with_reducible refine (HBT.out t _ hti hte).mono ?_)
         rintro e w12 ⟨⟨X2, c2, rfl, ho2⟩, hb12⟩
         have hh2 := bt hh1 hb12
         refine hK.out _ _ (HS.out _ hh2) (fun hS3 => ?_)
         clear hK K
         try simp only [List.getElem_toArray, List.getElem_cons_zero, List.getElem_cons_succ, Act.put, List.setIfInBounds_toArray, List.set_cons_zero, List.set_cons_succ]
         (refine wpAnyH_take (i := 9) (v := ?_) rfl (by kernel_rfl) (by kernel_rfl) (by kernel_rfl) (fun _ _ _ h => h) (Or.inl ⟨by rfl, ?_⟩) (by assumption) ?_; rotate_left; (focus (intro w hSw; (try dsimp only at hSw); go_split_ands; go_simp <;> with_reducible rfl)); simp only [List.getElem_toArray, List.getElem_cons_zero, List.getElem_cons_succ, Act.put, List.setIfInBounds_toArray, List.set_cons_zero, List.set_cons_succ])
         refine wpAnyH_done (by kernel_rfl) ?_ _
         have lgy : gy < w10.heap.size := by
          have := World.block_lt_of_cell? w10 _ hT.c0
          exact this
         have T12 := hT.keep hh2 lgy
         obtain ⟨t0, t1, t2, f0, f1, f2⟩ := id T12
         simp only [tailQ]
         go_simp
         go_wp2_with fail
         go_meet
         case rel =>
          refine ⟨⟨zn, 255, X2, c2, tabB d⟩, HIM.out.symm, ?_, ?_, ?_⟩
          ·have k9 := (((T12.set0 (.int .i64 zn)).set1 (.int .i64 255)).set2 (.slice X2 Q c2))
           first | (rw [HMQ.out.2]; exact k9) | (rw [HMQ.out.2]; exact tri_drew k9)
          ·rw [HMQ.out.2]
           have k9 := own_tri ho2 (show gy < w11.heap.size by have := hh1.size; omega) (.int .i64 zn) (.int .i64 255) (.slice X2 Q c2)
           have l11 := hh1.size
           first | exact Own.less k9 (by omega) | exact Own.less (Own.drew k9) (by omega)
          ·have k9 := below_tri (hbc.trans (hh2.mono lb)) hgy (.int .i64 zn) (.int .i64 255) (.slice X2 Q c2)
           first | exact k9 | exact below_dr k9
        ·have i3 : ¬ (((k + j) % 4 : Nat) : Int) = 3 := by omega
         have i4 : ((((k + j) % 4 : Nat) : Int) == 3) = false := beq_eq_false_iff_ne.2 i3
         have HIM := Lib.hid (show imgX z d (tabB d) (UInt8.ofNat fl.toNat) k j = (zn, wq - 1, [UInt8.ofNat fl.toNat, UInt8.ofNat k, UInt8.ofNat j, 1, 2, 3, 4, 5]) by unfold imgX; rw [if_neg h3, HZN.out, HWQ.out])
         clear h3
         go_wp2_with fail
         go_meet
         case rel => exact ⟨⟨zn, wq - 1, X, 8, [UInt8.ofNat fl.toNat, UInt8.ofNat k, UInt8.ofNat j, 1, 2, 3, 4, 5]⟩, HIM.out.symm, hT, hO, hbc⟩
       case rest =>
        obtain ⟨y, hyd, hTy, hOy, hby⟩ := hcut
        obtain ⟨w13, rfl⟩ : ∃ y, y = wc := ⟨wc, rfl⟩
        have HYD := Lib.hid hyd
        have hF13 := hF.keep hby l8
        have hI13 := hI.below hby
        have l13 := hby.size
        have hvf : ∀ q, v.ownBlock = some q → w5.heap.size + 1 ≤ q := fun q hq => (World.ownsRow.lt hI.1 q hq).1
        have HIL := Lib.hid (show is.length = j by rw [← ids_length, his, imsX_length])
        have HIS := Lib.hid his
        clear hyd his hbc hT hO G10 v8 v1 q1 q3 hgy lb
        obtain ⟨x0, x1, x2, x3, fx0, fx1, fx2, fx3⟩ := id hF13
        obtain ⟨t0, t1, t2, -, -, -⟩ := id hTy
        go_wp2_with (first
         | (at_builtin; refine wpList_row _ rfl (.tmp 92) (.tmp 94) _ _ rfl (w5.heap.size + 1) 3 40 81 (.agg #[.int .i64 0, .int .i64 0, .slice none 0 0]) Tryz.underlying61 im_info rfl v is.length (ivs is) rfl (hI13.below (bl w13 (.cells #[.int .i64 y.z, .int .i64 y.wh, .slice y.A y.l.length y.c] 81))).1 _ 1 _ rfl (src_img (P := Tryz.prog) (heap_alloc_new w13 (.cells #[.int .i64 y.z, .int .i64 y.wh, .slice y.A y.l.length y.c] 81)) Tryz.underlying61 (by simp [Value.oneCell'])) (by rw [HIL.out]; unfold maxLen; omega) (by rw [HIL.out]; omega) (by have := (bl w13 (.cells #[.int .i64 y.z, .int .i64 y.wh, .slice y.A y.l.length y.c] 81)).size; omega) ?_; intro v14 w14 h14 hg14; (obtain ⟨A14, c14, hv14, -, -, -⟩ := row_form h14); subst hv14; (have hF14 := fou_far (hF13.keep (bl w13 (.cells #[.int .i64 y.z, .int .i64 y.wh, .slice y.A y.l.length y.c] 81)) (by omega)) hg14 hvf); obtain ⟨p0, p1, p2, p3, fp0, fp1, fp2, fp3⟩ := id hF14)
         | fail)
        have hgm : OwnI w14 (w5.heap.size + 1) (.slice A14 (is.length + 1) c14) (is ++ [y]) := (hI13.below (bl w13 (.cells #[.int .i64 y.z, .int .i64 y.wh, .slice y.A y.l.length y.c] 81))).more (r := y) hg14 (hOy.below (bl w13 (.cells #[.int .i64 y.z, .int .i64 y.wh, .slice y.A y.l.length y.c] 81))) h14
        have b14 := ((hby.mono (Nat.le_of_lt l8)).alloc (show w5.heap.size ≤ w13.heap.size by omega) (.cells #[.int .i64 y.z, .int .i64 y.wh, .slice y.A y.l.length y.c] 81)).grown hg14 (by have := (bl w13 (.cells #[.int .i64 y.z, .int .i64 y.wh, .slice y.A y.l.length y.c] 81)).size; omega) (fun q hq => by have := hvf q hq; omega)
        go_roundw
        case rel => exact ⟨j + 1, .slice A14 (is.length + 1) c14, is ++ [y], by omega, by go_num, by rw [ids_append, HIS.out, imsX_next, ← HYD.out]; rfl, hF14.set3 _, hgm.cell_set (Nat.lt_succ_self _) _, (hbi.trans b14).setCell (p := ⟨w5.heap.size, 3, none⟩) (Nat.le_refl w5.heap.size) _⟩
        case measure => simp [RowKit.intOf]; omega
     ·have j2 : ¬ (j : Int) < 1 + (U : Int) := by omega
      obtain rfl : j = 1 + U := by omega
      obtain ⟨A7, c7, hv7, -, -, -⟩ := row_form hI.1
      have hil : is.length = 1 + U := by rw [← ids_length, his, imsX_length]
      rw [hil] at hv7
      subst hv7
      obtain ⟨x0, x1, x2, x3, -, -, -, -⟩ := id hF
      have HIS := Lib.hid his
      have HIL := Lib.hid hil
      have v1 : IntKind.i64.wrap (ps + (1 + (U : Int))) = ps + (1 + (U : Int)) := IntWalk.i64_in _ (by omega)
      have v2 : IntKind.i64.wrap (ps + (1 + (U : Int)) + 1) = ps + (1 + (U : Int)) + 1 := IntWalk.i64_in _ (by omega)
      have v3 : IntKind.i64.wrap (us + (1 + (U : Int))) = us + (1 + (U : Int)) := IntWalk.i64_in _ (by omega)
      have v4 : IntKind.i64.wrap (us + (1 + (U : Int)) + 1) = us + (1 + (U : Int)) + 1 := IntWalk.i64_in _ (by omega)
      have q1 : ¬ l = 0 := by omega
      have q2 : (l == 0) = false := beq_eq_false_iff_ne.2 q1
      obtain ⟨pn, hpn⟩ : ∃ q, (ps + (1 + (U : Int)) + 1).tmod l = q := ⟨_, rfl⟩
      have hpn1 : 0 ≤ pn ∧ pn < l := by rw [← hpn]; exact ⟨Int.tmod_nonneg _ (by omega), Int.tmod_lt_of_pos _ (by omega)⟩
      have HPN := Lib.hid (show (ps + ((1 + U : Nat) : Int) + 1) % l = pn by rw [← hpn, Int.tmod_eq_emod_of_nonneg (by omega)]; try rfl)
      clear his hil
      have hown8 := hown.below hbi
      have hfar : ∀ q, (Value.slice A9 k c9).ownBlock = some q → w0.heap.size ≤ q := fun q hq => (World.ownsRow.lt hown.1 q hq).1
      go_wp2_with (first
       | (at_builtin; refine wpList_row _ rfl (.tmp 97) (.tmp 99) _ _ rfl w0.heap.size 4 48 63 (.agg #[.int .i64 0, .int .i64 0, .int .i64 0, .slice none 0 0]) Tryz.underlying31 tx_info rfl (.slice A9 k c9) qs.length (tvs qs) rfl (hown8.below (bl w8 (.cells #[.int .i64 (sq + (k : Int)), .int .i64 ps, .int .i64 (1 + (U : Int) + 1), .slice A7 (1 + U) c7] 63))).1 _ 1 _ rfl (src_txn (P := Tryz.prog) (heap_alloc_new w8 (.cells #[.int .i64 (sq + (k : Int)), .int .i64 ps, .int .i64 (1 + (U : Int) + 1), .slice A7 (1 + U) c7] 63)) Tryz.underlying31 (by simp [Value.oneCell'])) (by rw [HQK.out]; unfold maxLen; omega) (by rw [HQK.out]; omega) (by have := (bl w8 (.cells #[.int .i64 (sq + (k : Int)), .int .i64 ps, .int .i64 (1 + (U : Int) + 1), .slice A7 (1 + U) c7] 63)).size; omega) ?_; intro v14 w14 h14 hg14; obtain ⟨⟨e0, e1, e2, e3, e4⟩, -⟩ := HMG.out w14 (((hbr.trans (hbi.mono lw)).alloc (show w0.heap.size ≤ w8.heap.size by omega) (.cells #[.int .i64 (sq + (k : Int)), .int .i64 ps, .int .i64 (1 + (U : Int) + 1), .slice A7 (1 + U) c7] 63)).grown hg14 (by have := (bl w8 (.cells #[.int .i64 (sq + (k : Int)), .int .i64 ps, .int .i64 (1 + (U : Int) + 1), .slice A7 (1 + U) c7] 63)).size; omega) hfar))
       | fail)
      have b14 := ((hbr.trans (hbi.mono lw)).alloc (show w0.heap.size ≤ w8.heap.size by omega) (.cells #[.int .i64 (sq + (k : Int)), .int .i64 ps, .int .i64 (1 + (U : Int) + 1), .slice A7 (1 + U) c7] 63)).grown hg14 (by have := (bl w8 (.cells #[.int .i64 (sq + (k : Int)), .int .i64 ps, .int .i64 (1 + (U : Int) + 1), .slice A7 (1 + U) c7] 63)).size; omega) hfar
      have hgm : OwnT w14 w0.heap.size v14 (qs ++ [⟨sq + k, ps, 1 + (U : Int) + 1, A7, c7, is⟩]) := (hown8.below (bl w8 (.cells #[.int .i64 (sq + (k : Int)), .int .i64 ps, .int .i64 (1 + (U : Int) + 1), .slice A7 (1 + U) c7] 63))).more (r := ⟨sq + k, ps, 1 + (U : Int) + 1, A7, c7, is⟩) hg14 (by
       have h9 := (hI.below (bl w8 (.cells #[.int .i64 (sq + (k : Int)), .int .i64 ps, .int .i64 (1 + (U : Int) + 1), .slice A7 (1 + U) c7] 63))).less (show w0.heap.size ≤ w5.heap.size + 1 by omega)
       show OwnI _ _ (.slice A7 is.length c7) is
       rw [HIL.out]
       exact h9) (by
       show World.ownsRow _ _ _ _ _ _ (_ ++ [.int .i64 (sq + (k : Int)), .int .i64 ps, .int .i64 (1 + (U : Int) + 1), .slice A7 is.length c7])
       rw [HIL.out]
       exact h14)
      go_roundw
      case rel => exact ⟨k + 1, pn, us + (1 + (U : Int)) + 1, qs ++ [⟨sq + k, ps, 1 + (U : Int) + 1, A7, c7, is⟩], by omega, by go_num, rfl, rfl, by omega, by omega, by rw [List.length_append, HQK.out]; rfl, by
       rw [tds_append, ← HX.out, List.append_assoc]
       congr 1
       show [Txd.mk (sq + k) ps (1 + (U : Int) + 1) (ids is)] ++ _ = _
       rw [HIS.out, HPN.out, List.singleton_append]
       congr 1, hgm, b14⟩
      case measure => simp [RowKit.intOf]; omega
  ·have j1 : ¬ (k : Int) < (n : Int) := by omega
   obtain rfl : k = n := by omega
   have HX := Lib.hid (show tds qs = L by
    rw [List.drop_eq_nil_of_le (by rw [HYN.out]; exact Nat.le_refl _), logX, List.append_nil] at hqs
    exact hqs)
   clear hqs
   go_wp2_with fail
   go_ret
   first | exact ⟨⟨_, _, rfl, HX.out, hown.less (by omega)⟩, hw.trans (hbr.mono hw.size)⟩ | exact ⟨⟨_, rfl, _, HX.out, hown.less (by omega)⟩, hw.trans (hbr.mono hw.size)⟩
end Go.Proofs.YtbfdpibjicjagaaGreatDoor.rng
namespace Go.Proofs.YtbfdpibjicjagaaGreatDoor.rng
open Go.RowKit Go.Lib
open Go.Proofs.YtbfdpibjicjagaaGreatDoor.gmt (Ok)
theorem ok1 : Ok 1 1 0 14 1 := by unfold Ok; omega
def wkL : List Txd := [⟨1, 0, 2, imsX 1 1 (tabB 1) 7 0 1⟩, ⟨2, 2, 3, imsX 1 1 (tabB 1) 7 1 2⟩]
theorem wk_log : logX 1 1 14 (tabB 1) 7 1 0 0 0 [0, 1] = wkL := by
 have c0 : cntX 0 = 1 := by decide
 have c1 : cntX 1 = 2 := by decide
 simp [logX, c0, c1, wkL]
theorem wk_logOk : LogOk 1 1 14 0 1 0 wkL := by
 have h := logX_ok (z := 1) (d := 1) (l := 14) (tb := tabB 1) (by decide) (by decide) (tabB_told (by decide)) 7 1 [0, 1] 0 0 0 (by decide)
 rw [wk_log] at h
 exact h
end Go.Proofs.YtbfdpibjicjagaaGreatDoor.rng
