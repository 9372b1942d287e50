/-
  Each byte string of a zone's images is short; how many images there are (for StripeExact). Plain: no walk.
-/
import Derived.Test.YthdahdopejapmaaGSt
namespace Go.Proofs.Ythdahdopejapmaa.stp
open Go.RowKit Go.Lib
open Go.Proofs.Ythdahdopejapmaa.tbl (Ent EntOk encT)
open Go.Proofs.Ythdahdopejapmaa.zon
open Go.Proofs.Ythdahdopejapmaa.img

theorem hadK_short {bs : List (List UInt8)} {n : Nat} (h : ∀ y ∈ bs, y.length ≤ n) (k : Nat) : (hadK bs k).length ≤ n := by
  unfold hadK
  cases e : bs[k]? with
  | none => simp
  | some y => exact h y (List.mem_of_getElem? e)

theorem imgL_short {z : Int} {es : List Ent} {p : List UInt8} {ats : List Int} {bs : List (List UInt8)} {rs : List ImR} {n : Nat} (h : ids rs = imgL z es p ats bs) (hb : ∀ y ∈ bs, y.length ≤ n) (hp : p.length ≤ n) (he : (encT es).length ≤ n) : IShort n rs := by
  intro r hr
  have hm : (r.z, r.wh, r.l) ∈ imgL z es p ats bs := by
    rw [← h]
    exact List.mem_map.2 ⟨r, hr, rfl⟩
  unfold imgL at hm
  rcases List.mem_append.1 hm with h1 | h1
  · obtain ⟨i, -, hi⟩ := List.mem_map.1 h1
    have h2 : hadK bs i = r.l := congrArg (fun q => q.2.2) hi
    rw [← h2]
    exact hadK_short hb i
  · rcases List.mem_cons.1 h1 with h2 | h2
    · have h3 : r.l = p := congrArg (fun q => q.2.2) h2
      rw [h3]
      exact hp
    · have h3 : r.l = encT es := congrArg (fun q => q.2.2) (List.mem_singleton.1 h2)
      rw [h3]
      exact he
end Go.Proofs.Ythdahdopejapmaa.stp
