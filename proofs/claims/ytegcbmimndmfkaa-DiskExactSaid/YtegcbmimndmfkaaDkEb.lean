/-
  The document's disk: Flush, Crash, Read. Conditions: a valid disk; a cell's address; keep from 0 on.
-/
import Derived.Test.YtegcbmimndmfkaaDkEa
import Derived.Test.YtegcbmimndmfkaaDkCr
namespace Go.Proofs.Ytegcbmimndmfkaa.dsk
open Go.RowKit Go.Lib

theorem RefD.nocache {w : World} {base g : Nat} {y : DV} (h : RefD w base g y) : RefD (w.setCell ⟨g, 1, none⟩ (.slice none 0 0)) base g ⟨y.CA, y.cc, y.cs, none, 0, [], y.reqs, y.left⟩ := by
  have o := h.o.apart h.nc h.nw h.r.c1 (slice_no8 _ _ _) (.slice none 0 0)
  exact ⟨h.r.set1 _, ⟨o.oc, World.ownsRow_nil _ _ _ _, o.ci, WIn.nil _ _⟩, h.nc, fun e => by simp [Value.ownBlock] at e, h.lo, by simpa using h.hi⟩
theorem RefD.setleft {w : World} {base g : Nat} {y : DV} (h : RefD w base g y) (l : Int) : RefD (w.setCell ⟨g, 3, none⟩ (.int .i64 l)) base g ⟨y.CA, y.cc, y.cs, y.WA, y.wc, y.ws, y.reqs, l⟩ := by
  have o := h.o.apart h.nc h.nw h.r.c3 (int_no8 _) (.int .i64 l)
  exact ⟨h.r.set3 _, ⟨o.oc, o.ow, o.ci, o.wi⟩, h.nc, h.nw, h.lo, by simpa using h.hi⟩
theorem RefD.keepw {w w' : World} {base g : Nat} {y : DV} (h : RefD w base g y) (e : w' = w) : RefD w' base g y := by rw [e]; exact h
theorem ws_short {y : DV} (hv : Valid y.d) {r : WriR} (hr : r ∈ y.ws) : 0 ≤ r.addr ∧ r.addr < y.cs.length ∧ r.b.l.length ≤ 200 := by
  have h := hv.2.2 r.d (List.mem_map_of_mem hr)
  have e : y.d.cells.length = y.cs.length := cds_length _
  exact ⟨h.1, by rw [← e]; exact h.2.1, h.2.2⟩
set_option maxHeartbeats 2000000 in
theorem rflush_dead (y : DV) (base g : Nat) (w : World) (h : RefD w base g y) (hl : y.left = 0) :
    Calls Try.prog 25 #[.pointer (some ⟨g, 0, none⟩)] w fun e w' => e = .returned (.int .i64 8) ∧ RefD w' base g y ∧ Below base w w' := by
  have cR := rreq_dead y base g w h hl
  have HH := Lib.hid h
  clear h
  go_enter Try.func25, Try.ntmps25
  go_wp2_with (first | (go_at_call 42; (with_reducible refine cR.mono ?_); rintro e w1 ⟨rfl, rfl⟩))
  go_ret
  exact ⟨rfl, HH.out, Below.refl _ _⟩
set_option maxHeartbeats 4000000 in
theorem rflush_ok (y : DV) (base g : Nat) (w : World) (h : RefD w base g y) (hv : Valid y.d) (hl : ¬ y.left = 0) :
    Calls Try.prog 25 #[.pointer (some ⟨g, 0, none⟩)] w fun e w' => e = .returned (.int .i64 0) ∧ (∃ z : DV, z.d = ⟨play (fun _ => true) 0 y.d.cells y.d.cache, [], (req y.d).reqs, (req y.d).left⟩ ∧ RefD w' base g z) ∧ Below base w w' := by
  have hn : y.ws.length ≤ 2000 := by have h1 := hv.1.1.2.2; rwa [show y.d.cache.length = y.ws.length from wds_length _] at h1
  have cR := rreq_ok y base g w h hl hv.1.2.1 hv.1.2.2.1 hv.1.2.2.2.1 hv.1.2.2.2.2
  have HV := Lib.hid hv
  have lo := h.lo
  clear h hv
  go_enter Try.func25, Try.ntmps25
  go_wp2_with (first | (go_at_call 42; (with_reducible refine cR.mono ?_); rintro e w1 ⟨rfl, h1, b1, -⟩))
  have HH := Lib.hid h1
  clear h1 cR
  go_loopw [3] (fun i w' => ∃ (k : Nat) (rs : List CellR), k ≤ y.ws.length ∧ i = .int .i64 k ∧ rs.length = y.cs.length ∧ play (fun _ => true) k (cds rs) ((wds y.ws).drop k) = play (fun _ => true) 0 (cds y.cs) (wds y.ws) ∧ RefD w' base g ⟨y.CA, y.cc, rs, y.WA, y.wc, y.ws, min (y.reqs + 1) 1048576, less y.left⟩ ∧ Below base w w') (fun i _ => y.ws.length - (RowKit.intOf i).toNat)
  case atStart => exact ⟨0, y.cs, Nat.zero_le _, rfl, rfl, rfl, HH.out, b1⟩
  case round =>
    rename_i wr
    clear HH b1
    obtain ⟨k, rs, hk, rfl, hrs, hp, hR, hB⟩ := hrel
    obtain ⟨c0, c1, c2, c3, f0, f1, f2, f3⟩ := id hR.r
    by_cases hlt : k < y.ws.length
    · have i1 : (k : Int) < (y.ws.length : Int) := by omega
      obtain ⟨bw, ow, u, ew, hbw, u0, u1, um, ui, uk, ud⟩ := write_at hR.o.in.hw hR.o.in.wi hlt
      dsimp only at ew c1
      rw [ew] at c1
      obtain ⟨v1, v2, v3⟩ := ws_short HV.out ui
      have cD := rdone_at _ u base g wr hR um v1 (by show u.addr < (rs.length : Int); rw [hrs]; exact v2) (by omega)
      have hp2 := hp
      rw [play_next _ ud, if_pos rfl] at hp2
      have HP := Lib.hid hp2
      have HB := Lib.hid hB
      clear hp hp2 hR hB um ui uk ud v1 v2 v3 HV
      go_wp2_with (first | (go_at_call 43; (with_reducible refine cD.mono ?_); rintro e w3 ⟨⟨rs2, rfl, l2, hc2, h3⟩, b3⟩))
      have hc2 := Lib.hid hc2
      go_roundw
      case rel =>
        exact ⟨k + 1, rs2, by omega, by go_num, by rw [l2]; exact hrs, by rw [hc2.out]; exact HP.out, h3, HB.out.trans b3⟩
      case measure => simp [RowKit.intOf]; omega
    · have i1 : ¬ ((k : Int) < (y.ws.length : Int)) := by omega
      have hp2 := hp
      rw [play_done _ _ _ _ (by rw [wds_length]; omega)] at hp2
      have HP := Lib.hid hp2
      have HB := Lib.hid hB
      have HR := Lib.hid hR
      clear hp hp2 hR hB HV
      go_wp2_with fail
      go_ret
      refine ⟨rfl, ⟨_, ?_, HR.out.nocache⟩, HB.out.setCell (p := ⟨g, 1, none⟩) lo _⟩
      show (⟨cds rs, [], min (y.reqs + 1) 1048576, less y.left⟩ : Dsk) = _
      rw [HP.out]
      rfl
set_option maxHeartbeats 4000000 in
theorem rcrash_at (y : DV) (keep : Int) (base g : Nat) (w : World) (h : RefD w base g y) (hv : Valid y.d) (k0 : 0 ≤ keep) (k1 : keep ≤ 9223372036854775807) :
    Calls Try.prog 26 #[.pointer (some ⟨g, 0, none⟩), .int .i64 keep] w fun e w' => e = .returned (.tuple #[]) ∧ (∃ z : DV, z.d = ⟨play (pick keep) 0 y.d.cells y.d.cache, [], y.d.reqs, -1⟩ ∧ RefD w' base g z) ∧ Below base w w' := by
  have hn : y.ws.length ≤ 2000 := by have h1 := hv.1.1.2.2; rwa [show y.d.cache.length = y.ws.length from wds_length _] at h1
  have HV := Lib.hid hv
  have HH := Lib.hid h
  have lo := h.lo
  clear h hv
  go_enter Try.func26, Try.ntmps26
  go_wp2_with fail
  go_loopw [4] (fun i w' => ∃ (k : Nat) (rs : List CellR), k ≤ y.ws.length ∧ i = .int .i64 k ∧ rs.length = y.cs.length ∧ play (pick keep) k (cds rs) ((wds y.ws).drop k) = play (pick keep) 0 (cds y.cs) (wds y.ws) ∧ RefD w' base g ⟨y.CA, y.cc, rs, y.WA, y.wc, y.ws, y.reqs, y.left⟩ ∧ Below base w w') (fun i _ => y.ws.length - (RowKit.intOf i).toNat)
  case atStart => exact ⟨0, y.cs, Nat.zero_le _, rfl, rfl, rfl, HH.out, Below.refl _ _⟩
  case round =>
    rename_i wr
    clear HH
    obtain ⟨k, rs, hk, rfl, hrs, hp, hR, hB⟩ := hrel
    obtain ⟨c0, c1, c2, c3, f0, f1, f2, f3⟩ := id hR.r
    by_cases hlt : k < y.ws.length
    · have i1 : (k : Int) < (y.ws.length : Int) := by omega
      obtain ⟨bw, ow, u, ew, hbw, u0, u1, um, ui, uk, ud⟩ := write_at hR.o.in.hw hR.o.in.wi hlt
      dsimp only at ew c1
      rw [ew] at c1
      obtain ⟨v1, v2, v3⟩ := ws_short HV.out ui
      have cD := rdone_at _ u base g wr hR um v1 (by show u.addr < (rs.length : Int); rw [hrs]; exact v2) (by omega)
      have hp2 := hp
      rw [play_next _ ud] at hp2
      have HB := Lib.hid hB
      have HR := Lib.hid hR
      have hbit := pick_bit keep k k0 k1
      by_cases hpk : pick keep k = true
      · rw [if_pos hpk] at hbit hp2
        have HP := Lib.hid hp2
        clear hp hp2 hR hB um ui uk ud v1 v2 v3 HV hpk
        go_wp2_with (first | (go_at_call 43; (with_reducible refine cD.mono ?_); rintro e w3 ⟨⟨rs2, rfl, l2, hc2, h3⟩, b3⟩))
        have hc2 := Lib.hid hc2
        go_roundw
        case rel =>
          exact ⟨k + 1, rs2, by omega, by go_num, by rw [l2]; exact hrs, by rw [hc2.out]; exact HP.out, h3, HB.out.trans b3⟩
        case measure => simp [RowKit.intOf]; omega
      · rw [if_neg hpk] at hbit hp2
        have HP := Lib.hid hp2
        clear hp hp2 hR hB um ui uk ud v1 v2 v3 HV hpk cD
        go_wp2_with fail
        go_roundw
        case rel =>
          exact ⟨k + 1, rs, by omega, by go_num, hrs, HP.out, HR.out, HB.out⟩
        case measure => simp [RowKit.intOf]; omega
    · have i1 : ¬ ((k : Int) < (y.ws.length : Int)) := by omega
      have hp2 := hp
      rw [play_done _ _ _ _ (by rw [wds_length]; omega)] at hp2
      have HP := Lib.hid hp2
      have HB := Lib.hid hB
      have HR := Lib.hid hR
      clear hp hp2 hR hB HV
      go_wp2_with fail
      go_end0
      refine ⟨rfl, ⟨_, ?_, HR.out.nocache.setleft (-1)⟩, (HB.out.setCell (p := ⟨g, 1, none⟩) lo _).setCell (p := ⟨g, 3, none⟩) lo _⟩
      show (⟨cds rs, [], y.reqs, -1⟩ : Dsk) = _
      rw [HP.out]
      rfl
end Go.Proofs.Ytegcbmimndmfkaa.dsk
