/-
  The law PlaceExact. Conditions: 'ValidOk', 'CloneOk', 'Tabs' (proved apart).
-/
import Derived.Test.YthbjfpgcinmjiaaDoorPlI2
import Derived.Test.YthbjfpgcinmjiaaDoorPlJ
import Derived.Test.YthbjfpgcinmjiaaDoorPlJ2
import Derived.Test.YthbjfpgcinmjiaaDoorPlJ3
namespace Go.Proofs.YthbjfpgcinmjiaaDoor.plc
open Go.RowKit Go.Lib
open Go.Proofs.YthbjfpgcinmjiaaDoor.gmt (Ok)
open Go.Proofs.YthbjfpgcinmjiaaDoor.anc
open Go.Proofs.YthbjfpgcinmjiaaDoor.lbl (ValidOk CloneOk Tabs)

theorem lab_same {u x : AV} (h : u.d = x.d) (hl : x.lab.size ≤ 4294967296) : u.lab.size ≤ 4294967296 := by
  have : u.lab = x.lab := congrArg Anc.lab h
  rw [this]; exact hl
theorem few_d {z d s l a : Int} {X : Anc} (ho : Ok z d s l a) (hg : anc.Good z d s l X) : X.hs.length ≤ 1048576 ∧ ∀ k ∈ X.hs, k.ps.length ≤ 1048576 := by
  obtain ⟨o1, o2, -⟩ := ho
  have h8 := hg.2.2.2.2.2.2.2.1
  refine ⟨by omega, fun k hk => ?_⟩
  obtain ⟨k1, -⟩ := hg.2.2.2.2.2.2.2.2 k hk
  omega
theorem placeExact_law (hV : ValidOk) (hC : CloneOk) (z d s l a : Int) (x : AV) (zn wh : Int) (w : World) (hT : Tabs w) (hx : x.In w w.heap.size) :
    Calls Tryd.prog 3 #[.agg #[.int .i64 z, .int .i64 d, .int .i64 s, .int .i64 l, .int .i64 a], x.v, .int .i64 zn, .int .i64 wh] w fun e w' => e = .returned (.bool true) ∧ Below w.heap.size w w' := by
  by_cases hh : HeavyA x.d
  · exact pe_heavy z d s l a x zn wh w hx hh
  have hl : x.lab.size ≤ 4294967296 := by have := (light hh).2.1; omega
  have cW := fun W (hW : Below w.heap.size w W) => wk_place hV hC W (tn hT hW)
  by_cases hz : Ok z d s l a ∧ anc.Good z d s l x.d ∧ 0 ≤ zn ∧ zn < z
  · obtain ⟨ho, hg, h0, h1⟩ := hz
    obtain ⟨J, rfl⟩ : ∃ J : Nat, zn = (J : Int) := ⟨zn.toNat, by omega⟩
    obtain ⟨h, hh1⟩ := good_zone hg h1
    obtain ⟨r, hr, rfl⟩ := hds_at hh1
    obtain ⟨b1, b2⟩ := home_in hg hh1
    have b3 : d + 1 ≤ r.nx ∧ r.nx ≤ d + 1 + s := b2
    have cS := fun (u : AV) W (hW : Below w.heap.size w W) (hu : u.d = x.d) (hin : u.In W W.heap.size) => spares_g hV z d s l a u W J r.d (tn hT hW) ho hin (by rw [hu]; exact hg) (by rw [hu]; exact hh1)
    have cRS := fun W (hW : Below w.heap.size w W) => rspares_yes z d s l a x J r W ho (hx.next hW) hg hr
    by_cases hw : IsWhat d wh
    · obtain ⟨i, hi, hil⟩ := at_in ho hg hh1 hw
      have hil' : i < r.ps.length := hil
      obtain ⟨p, hp⟩ : ∃ p, r.ps[i]? = some p := ⟨_, List.getElem?_eq_getElem hil'⟩
      have cA := fun (u : AV) W (hW : Below w.heap.size w W) (hu : u.d = x.d) (hin : u.In W W.heap.size) => addr_g hV z d s l a u W J i wh p r.d (tn hT hW) ho hin (by rw [hu]; exact hg) (by rw [hu]; exact hh1) hw hi hp
      have cWh := fun W => rwhat_any true z d s l a wh W ho (iff_of_true rfl hw)
      have cRA := fun W (hW : Below w.heap.size w W) => raddr_yes z d s l a x J i wh p r W ho (hx.next hW) hg hr hi hp
      by_cases hn : r.nx < d + 1 + s
      · obtain ⟨f1, f2⟩ := good_few ho hg
        refine pe_y11 z d s l a x J r (d + 1 + s - r.nx) _ (moveA x.d J i r.d) (slotA z d s l a J r.nx) wh w hx hh ho hg h1 hr cRS cWh cRA (fun W hW => rmove_yes z d s l a x J wh r W (by omega) (few_more f2 (by omega)) ho (hx.next hW) hg hr hn i hi hil') (by omega) (few_d ho (good_move hg hh1 hn)) cA cS ?_ ?_ cW
        · intro u W hW hu hin
          have := move_g hV hC z d s l a u W J i wh r.d (tn hT hW) ho hin (by rw [hu]; exact hg) (by rw [hu]; exact hh1) hw hi hil hn
          rwa [hu] at this
        · intro u W hW hu hin
          have := skip_g hV hC z d s l a u W J r.d (tn hT hW) ho hin (by rw [hu]; exact hg) (by rw [hu]; exact hh1) hn
          rwa [hu] at this
      · have hn' : r.nx = d + 1 + s := by omega
        have e0 : d + 1 + s - r.nx = 0 := by omega
        refine pe_y01 z d s l a x J r _ wh w hx hh ho hg h1 hr ?_ cWh cRA cA ?_ (fun u W hW hu hin => move_g0 hV hC z d s l a u W J wh r.d (tn hT hW) ho hin (by rw [hu]; exact hg) (by rw [hu]; exact hh1) hw hn') (fun u W hW hu hin => skip_g0 hV hC z d s l a u W J r.d (tn hT hW) ho hin (by rw [hu]; exact hg) (by rw [hu]; exact hh1) hn') cW
        · intro W hW; have := cRS W hW; rwa [e0] at this
        · intro u W hW hu hin; have := cS u W hW hu hin; rwa [show d + 1 + s - r.d.nx = 0 from e0] at this
    · have cWh := fun W => rwhat_any false z d s l a wh W ho (iff_of_false Bool.false_ne_true hw)
      have cA := fun (u : AV) W (hW : Below w.heap.size w W) (hu : u.d = x.d) (hin : u.In W W.heap.size) => addr_no hV z d s l a u J wh W (tn hT hW) hin (lab_same hu hl) (fun k => hw k.2)
      have cM := fun (u : AV) W (hW : Below w.heap.size w W) (hu : u.d = x.d) (hin : u.In W W.heap.size) => move_no hV z d s l a u J wh W (tn hT hW) hin (lab_same hu hl) (fun k => hw k.2)
      by_cases hn : r.nx < d + 1 + s
      · refine pe_y10 z d s l a x J r (d + 1 + s - r.nx) wh w hx hh ho hg h1 hr cRS cWh (by omega) cA cS cM ?_ cW
        intro u W hW hu hin
        have := skip_g hV hC z d s l a u W J r.d (tn hT hW) ho hin (by rw [hu]; exact hg) (by rw [hu]; exact hh1) hn
        rwa [hu] at this
      · have hn' : r.nx = d + 1 + s := by omega
        have e0 : d + 1 + s - r.nx = 0 := by omega
        refine pe_y00 z d s l a x J r wh w hx hh ho hg h1 hr ?_ cWh cA ?_ cM (fun u W hW hu hin => skip_g0 hV hC z d s l a u W J r.d (tn hT hW) ho hin (by rw [hu]; exact hg) (by rw [hu]; exact hh1) hn') cW
        · intro W hW; have := cRS W hW; rwa [e0] at this
        · intro u W hW hu hin; have := cS u W hW hu hin; rwa [show d + 1 + s - r.d.nx = 0 from e0] at this
  · have cA := fun (u : AV) W (hW : Below w.heap.size w W) (hu : u.d = x.d) (hin : u.In W W.heap.size) => addr_no hV z d s l a u zn wh W (tn hT hW) hin (lab_same hu hl) (fun k => hz (by rw [hu] at k; exact k.1))
    have cS := fun (u : AV) W (hW : Below w.heap.size w W) (hu : u.d = x.d) (hin : u.In W W.heap.size) => spares_no hV z d s l a u zn W (tn hT hW) hin (lab_same hu hl) (fun k => hz (by rw [hu] at k; exact k))
    have cM := fun (u : AV) W (hW : Below w.heap.size w W) (hu : u.d = x.d) (hin : u.In W W.heap.size) => move_no hV z d s l a u zn wh W (tn hT hW) hin (lab_same hu hl) (fun k => hz (by rw [hu] at k; exact k.1))
    have cK := fun (u : AV) W (hW : Below w.heap.size w W) (hu : u.d = x.d) (hin : u.In W W.heap.size) => skip_no hV z d s l a u zn W (tn hT hW) hin (lab_same hu hl) (fun k => hz (by rw [hu] at k; exact k))
    by_cases ho : Ok z d s l a
    · by_cases hg : anc.Good z d s l x.d
      · by_cases h0 : 0 ≤ zn
        · exact pe_high z d s l a x zn wh w hx hh ho hg h0 (by have : ¬ zn < z := fun k => hz ⟨ho, hg, h0, k⟩; omega) cA cS cM cK cW
        · exact pe_low z d s l a x zn wh w hx hh ho hg (by omega) cA cS cM cK cW
      · exact pe_bad z d s l a x zn wh w hx hh ho hg cA cS cM cK cW
    · exact pe_geo z d s l a x zn wh w hx hh ho cA cS cM cK cW
end Go.Proofs.YthbjfpgcinmjiaaDoor.plc
