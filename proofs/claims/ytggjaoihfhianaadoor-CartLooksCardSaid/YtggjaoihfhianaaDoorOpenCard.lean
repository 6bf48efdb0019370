/-
  A card that comes in.
-/
import Derived.Test.YtggjaoihfhianaaDoorOpen
import Derived.ProofKit
import Derived.OpenShut
import Derived.SizedLaws
import Derived.Deep.Slices
import Derived.Deep.Fields
import Derived.ChangeSame
import Derived.Lib.SmallJoins
namespace Go.Proofs.YtggjaoihfhianaaDoor
open Go.RowKit Go.ChangeShapes Go.WideShapes Go.ChangeAt Go.Joins Go.Deep
set_option linter.unusedVariables false
set_option maxRecDepth 100000

/-- A card that came in. -/
theorem open_card {H : Type} {enc : TypeId × Value → H} {w : World} {r : Reach} {b0 base : Nat} {held : Bool} {v : Value} {d : DataW H} {p : List MemPlace} (hv : Value.okWide Tryd.prog w r b0 39 v) (h : DataW.Trod enc Tryd.prog w base (fun _ => true) held 39 v d p) :
    ∃ (t : ByteArray) (m k r c s z : Nat), v = .agg #[.string t, .int .u8 m, .int .u8 k, .int .u8 r, .int .u16 c, .int .u16 s, .int .u16 z] ∧ t.size ≤ 9223372036854775807 ∧ m < 256 ∧ c < 65536 ∧ s < 65536 := by
  obtain ⟨v0, v1, v2, v3, v4, v5, v6, y0, y1, y2, y3, y4, y5, y6, n, rfl, rfl, h0, h1, h2, h3, h4, h5, h6⟩ := open_agg7 Tryd.underlying39 (by kernel_rfl) (by kernel_rfl) hv h
  obtain ⟨t, e0, -, w0⟩ := DataW.trod_string Tryd.underlying9 h0
  obtain ⟨m, e1, -, w1⟩ := DataW.trod_int Tryd.underlying5 h1
  obtain ⟨k, e2, -, w2⟩ := DataW.trod_int Tryd.underlying5 h2
  obtain ⟨rs, e3, -, w3⟩ := DataW.trod_int Tryd.underlying5 h3
  obtain ⟨c, e4, -, w4⟩ := DataW.trod_int Tryd.underlying27 h4
  obtain ⟨s, e5, -, w5⟩ := DataW.trod_int Tryd.underlying27 h5
  obtain ⟨z, e6, -, w6⟩ := DataW.trod_int Tryd.underlying27 h6
  obtain ⟨m, rfl, hm⟩ := nat8 w1
  obtain ⟨k, rfl, hk⟩ := nat8 w2
  obtain ⟨rs, rfl, hr⟩ := nat8 w3
  obtain ⟨c, rfl, hc⟩ := nat16 w4
  obtain ⟨s, rfl, hs⟩ := nat16 w5
  obtain ⟨z, rfl, hz⟩ := nat16 w6
  injection e0 with e0
  injection e1 with e1
  injection e2 with e2
  injection e3 with e3
  injection e4 with e4
  injection e5 with e5
  injection e6 with e6
  subst e0 e1 e2 e3 e4 e5 e6
  exact ⟨t, m, k, rs, c, s, z, rfl, w0, hm, hc, hs⟩
end Go.Proofs.YtggjaoihfhianaaDoor
